/-
  No cell of these rows narrows 'for every input' (looked for: loops, veiled, ifaces, maps, wideKeys, modest, calm, conditions, laid).
  DERIVED. THE GIVEN ROWS OF THIS SEAT. 7 by the template 'for every input the law returns true; each argument reads behind the call as it read before'; 0 by the template 'total and deterministic' (their statements: YtdlmiiekcpbdcaaTotals.lean).
  GIVEN WITH THE SEED: the statements are not yours to turn. If you find one false, say at which input.
  Laid BY PROGRAM, IN A SANDBOX (cutbox-rows.mjs): the forced cells as the released guide's own fill.sh prints them over the translation 1e92c18502f9113e… (all of the seat's roots in one cut). By AI agents, Wed Nov 11 2026. No macro, syntax, notation, axiom, sorry.
-/
import Derived.Test.YtdlmiiekcpbdcaaChecked
import GoSem.Claim
import GoSem.ClaimJoined
import GoSem.ClaimMapViews
import Derived.JoinedTies
import Derived.KernelRfl
namespace Go.Proofs.Ytdlmiiekcpbdcaa
/- THE CELL 'sum', in the pinned program and in every row, IS THE sha256 OF THE DUMP (.gsa) THAT YtdlmiiekcpbdcaaProg.lean LOADS. Nothing in Lean hashes anything: it is a label: what it is worth is what the hold of that sum in a sandbox is worth. -/
noncomputable def Try.pinned : Pinned := { name := "ytdlmiiekcpbdcaa", sum := "1e92c18502f9113e468a42b4a079a688c6a9ed4bf00f2288e340ee9e92ef3829", checked := Try.checked }
namespace Rows
def none {H : Type} : Left H := { results := [], args := [] }

/-- 'weirhouselaw.CurveBounds': WHATEVER THE INPUT: true; the input reads as it did. -/
def curveBoundsSpec : ChangeSpec := { name := "curveBounds", fn := fun _ => fun
  | [d1, d2, d3] => { results := [.lit (.bool true)], args := [d1, d2, d3] }
  | _ => none }
def curveBoundsRow : OpenClaim := { program := "ytdlmiiekcpbdcaa", sum := "1e92c18502f9113e468a42b4a079a688c6a9ed4bf00f2288e340ee9e92ef3829", func := "weirhouse/weirhouselaw.CurveBounds", spec := "curveBounds", apart := false }
def CurveBoundsSaid : Prop := curveBoundsRow.holds Try.pinned (OpenSpec.ofChange curveBoundsSpec)

/-- ITS FALSE NEIGHBOUR: 'it returns false'. Refute it at one input. -/
def curveBoundsWrong : ChangeSpec := { name := "curveBounds", fn := fun _ => fun
  | [d1, d2, d3] => { results := [.lit (.bool false)], args := [d1, d2, d3] }
  | _ => none }
def CurveBoundsWrongFalsely : Prop := curveBoundsRow.holds Try.pinned (OpenSpec.ofChange curveBoundsWrong)

/-- 'weirhouselaw.CurveServes': WHATEVER THE INPUT: true; the input reads as it did. -/
def curveServesSpec : ChangeSpec := { name := "curveServes", fn := fun _ => fun
  | [d1, d2, d3] => { results := [.lit (.bool true)], args := [d1, d2, d3] }
  | _ => none }
def curveServesRow : OpenClaim := { program := "ytdlmiiekcpbdcaa", sum := "1e92c18502f9113e468a42b4a079a688c6a9ed4bf00f2288e340ee9e92ef3829", func := "weirhouse/weirhouselaw.CurveServes", spec := "curveServes", unfollowed := true, recurses := true, apart := false }
def CurveServesSaid : Prop := curveServesRow.holds Try.pinned (OpenSpec.ofChange curveServesSpec)

/-- ITS FALSE NEIGHBOUR: 'it returns false'. Refute it at one input. -/
def curveServesWrong : ChangeSpec := { name := "curveServes", fn := fun _ => fun
  | [d1, d2, d3] => { results := [.lit (.bool false)], args := [d1, d2, d3] }
  | _ => none }
def CurveServesWrongFalsely : Prop := curveServesRow.holds Try.pinned (OpenSpec.ofChange curveServesWrong)

/-- 'weirhousekeep.CurveBacklog': WHATEVER THE INPUT: true; the input reads as it did. -/
def curveBacklogSpec : ChangeSpec := { name := "curveBacklog", fn := fun _ => fun
  | [d1, d2, d3] => { results := [.lit (.bool true)], args := [d1, d2, d3] }
  | _ => none }
def curveBacklogRow : OpenClaim := { program := "ytdlmiiekcpbdcaa", sum := "1e92c18502f9113e468a42b4a079a688c6a9ed4bf00f2288e340ee9e92ef3829", func := "weirhouse/weirhousekeep.CurveBacklog", spec := "curveBacklog", unfollowed := true, recurses := true, apart := false }
def CurveBacklogSaid : Prop := curveBacklogRow.holds Try.pinned (OpenSpec.ofChange curveBacklogSpec)

/-- ITS FALSE NEIGHBOUR: 'it returns false'. Refute it at one input. -/
def curveBacklogWrong : ChangeSpec := { name := "curveBacklog", fn := fun _ => fun
  | [d1, d2, d3] => { results := [.lit (.bool false)], args := [d1, d2, d3] }
  | _ => none }
def CurveBacklogWrongFalsely : Prop := curveBacklogRow.holds Try.pinned (OpenSpec.ofChange curveBacklogWrong)

/-- 'weirhousekeep.CurveDelay': WHATEVER THE INPUT: true; the input reads as it did. -/
def curveDelaySpec : ChangeSpec := { name := "curveDelay", fn := fun _ => fun
  | [d1, d2, d3] => { results := [.lit (.bool true)], args := [d1, d2, d3] }
  | _ => none }
def curveDelayRow : OpenClaim := { program := "ytdlmiiekcpbdcaa", sum := "1e92c18502f9113e468a42b4a079a688c6a9ed4bf00f2288e340ee9e92ef3829", func := "weirhouse/weirhousekeep.CurveDelay", spec := "curveDelay", unfollowed := true, recurses := true, apart := false }
def CurveDelaySaid : Prop := curveDelayRow.holds Try.pinned (OpenSpec.ofChange curveDelaySpec)

/-- ITS FALSE NEIGHBOUR: 'it returns false'. Refute it at one input. -/
def curveDelayWrong : ChangeSpec := { name := "curveDelay", fn := fun _ => fun
  | [d1, d2, d3] => { results := [.lit (.bool false)], args := [d1, d2, d3] }
  | _ => none }
def CurveDelayWrongFalsely : Prop := curveDelayRow.holds Try.pinned (OpenSpec.ofChange curveDelayWrong)

/-- 'weirhousekeep.CurveOut': WHATEVER THE INPUT: true; the input reads as it did. -/
def curveOutSpec : ChangeSpec := { name := "curveOut", fn := fun _ => fun
  | [d1, d2, d3] => { results := [.lit (.bool true)], args := [d1, d2, d3] }
  | _ => none }
def curveOutRow : OpenClaim := { program := "ytdlmiiekcpbdcaa", sum := "1e92c18502f9113e468a42b4a079a688c6a9ed4bf00f2288e340ee9e92ef3829", func := "weirhouse/weirhousekeep.CurveOut", spec := "curveOut", unfollowed := true, recurses := true, apart := false }
def CurveOutSaid : Prop := curveOutRow.holds Try.pinned (OpenSpec.ofChange curveOutSpec)

/-- ITS FALSE NEIGHBOUR: 'it returns false'. Refute it at one input. -/
def curveOutWrong : ChangeSpec := { name := "curveOut", fn := fun _ => fun
  | [d1, d2, d3] => { results := [.lit (.bool false)], args := [d1, d2, d3] }
  | _ => none }
def CurveOutWrongFalsely : Prop := curveOutRow.holds Try.pinned (OpenSpec.ofChange curveOutWrong)

/-- 'weirhousekeep.CurveChain': WHATEVER THE INPUT: true; the input reads as it did. -/
def curveChainSpec : ChangeSpec := { name := "curveChain", fn := fun _ => fun
  | [d1, d2, d3] => { results := [.lit (.bool true)], args := [d1, d2, d3] }
  | _ => none }
def curveChainRow : OpenClaim := { program := "ytdlmiiekcpbdcaa", sum := "1e92c18502f9113e468a42b4a079a688c6a9ed4bf00f2288e340ee9e92ef3829", func := "weirhouse/weirhousekeep.CurveChain", spec := "curveChain", unfollowed := true, recurses := true, apart := false }
def CurveChainSaid : Prop := curveChainRow.holds Try.pinned (OpenSpec.ofChange curveChainSpec)

/-- ITS FALSE NEIGHBOUR: 'it returns false'. Refute it at one input. -/
def curveChainWrong : ChangeSpec := { name := "curveChain", fn := fun _ => fun
  | [d1, d2, d3] => { results := [.lit (.bool false)], args := [d1, d2, d3] }
  | _ => none }
def CurveChainWrongFalsely : Prop := curveChainRow.holds Try.pinned (OpenSpec.ofChange curveChainWrong)

/-- 'weirhousekeep.CurveMore': WHATEVER THE INPUT: true; the input reads as it did. -/
def curveMoreSpec : ChangeSpec := { name := "curveMore", fn := fun _ => fun
  | [d1, d2, d3, d4, d5] => { results := [.lit (.bool true)], args := [d1, d2, d3, d4, d5] }
  | _ => none }
def curveMoreRow : OpenClaim := { program := "ytdlmiiekcpbdcaa", sum := "1e92c18502f9113e468a42b4a079a688c6a9ed4bf00f2288e340ee9e92ef3829", func := "weirhouse/weirhousekeep.CurveMore", spec := "curveMore", unfollowed := true, recurses := true, apart := false }
def CurveMoreSaid : Prop := curveMoreRow.holds Try.pinned (OpenSpec.ofChange curveMoreSpec)

/-- ITS FALSE NEIGHBOUR: 'it returns false'. Refute it at one input. -/
def curveMoreWrong : ChangeSpec := { name := "curveMore", fn := fun _ => fun
  | [d1, d2, d3, d4, d5] => { results := [.lit (.bool false)], args := [d1, d2, d3, d4, d5] }
  | _ => none }
def CurveMoreWrongFalsely : Prop := curveMoreRow.holds Try.pinned (OpenSpec.ofChange curveMoreWrong)

/- THE SECOND FORM. 'bulk': how many values and letters a reading holds, each counted each time it is reached (what is shared counts as often as it is met; a slice's spare places count too). A statement '..UptoSaid' is the law's where the arguments, and the package variables that the reading takes, are together of bulk at most 1048576: NARROWER than '..Said'. Prove '..Said' where nothing that the law and all that it calls make is longer than what came in: it says more and counts as full. Else prove '..UptoSaid'. A law counts once. -/
mutual
def uptoBulk {H : Type} : DataW H → Nat
  | .lit (.string bytes) => bytes.length + 1
  | .lit _ => 1
  | .nil => 1
  | .ptr d => uptoBulk d + 1
  | .slice elems spare => uptoBulkAll elems + uptoBulkAll spare + 1
  | .agg parts => uptoBulkAll parts + 1
  | .iface _ d => uptoBulk d + 1
  | .map entries => uptoBulkEntries entries + 1
  | .held _ => 1
def uptoBulkAll {H : Type} : List (DataW H) → Nat
  | [] => 0
  | d :: r => uptoBulk d + uptoBulkAll r
def uptoBulkEntries {H : Type} : List (Lit × DataW H) → Nat
  | [] => 0
  | x :: r => uptoBulkEntry x + uptoBulkEntries r
def uptoBulkEntry {H : Type} : Lit × DataW H → Nat
  | (.string bytes, d) => bytes.length + uptoBulk d + 1
  | (_, d) => uptoBulk d + 1
 end
def uptoSmall : (H : Type) → List (DataW H) → Bool := fun _ ds => decide (uptoBulkAll ds ≤ 1048576)
def OpenSpec.upto (s : _root_.Go.ChangeSpec) : _root_.Go.OpenSpec := { _root_.Go.OpenSpec.ofChange s with cond := some uptoSmall }

/-- 'weirhouselaw.CurveBounds', WHERE WHAT IT READS IS OF BULK AT MOST 1048576: true; the input reads as it did. -/
def curveBoundsUptoRow : OpenClaim := { program := "ytdlmiiekcpbdcaa", sum := "1e92c18502f9113e468a42b4a079a688c6a9ed4bf00f2288e340ee9e92ef3829", func := "weirhouse/weirhouselaw.CurveBounds", spec := "curveBounds", apart := false, narrowed := true }
def CurveBoundsUptoSaid : Prop := curveBoundsUptoRow.holds Try.pinned (OpenSpec.upto curveBoundsSpec)

/-- 'weirhouselaw.CurveServes', WHERE WHAT IT READS IS OF BULK AT MOST 1048576: true; the input reads as it did. -/
def curveServesUptoRow : OpenClaim := { program := "ytdlmiiekcpbdcaa", sum := "1e92c18502f9113e468a42b4a079a688c6a9ed4bf00f2288e340ee9e92ef3829", func := "weirhouse/weirhouselaw.CurveServes", spec := "curveServes", unfollowed := true, recurses := true, apart := false, narrowed := true }
def CurveServesUptoSaid : Prop := curveServesUptoRow.holds Try.pinned (OpenSpec.upto curveServesSpec)

/-- 'weirhousekeep.CurveBacklog', WHERE WHAT IT READS IS OF BULK AT MOST 1048576: true; the input reads as it did. -/
def curveBacklogUptoRow : OpenClaim := { program := "ytdlmiiekcpbdcaa", sum := "1e92c18502f9113e468a42b4a079a688c6a9ed4bf00f2288e340ee9e92ef3829", func := "weirhouse/weirhousekeep.CurveBacklog", spec := "curveBacklog", unfollowed := true, recurses := true, apart := false, narrowed := true }
def CurveBacklogUptoSaid : Prop := curveBacklogUptoRow.holds Try.pinned (OpenSpec.upto curveBacklogSpec)

/-- 'weirhousekeep.CurveDelay', WHERE WHAT IT READS IS OF BULK AT MOST 1048576: true; the input reads as it did. -/
def curveDelayUptoRow : OpenClaim := { program := "ytdlmiiekcpbdcaa", sum := "1e92c18502f9113e468a42b4a079a688c6a9ed4bf00f2288e340ee9e92ef3829", func := "weirhouse/weirhousekeep.CurveDelay", spec := "curveDelay", unfollowed := true, recurses := true, apart := false, narrowed := true }
def CurveDelayUptoSaid : Prop := curveDelayUptoRow.holds Try.pinned (OpenSpec.upto curveDelaySpec)

/-- 'weirhousekeep.CurveOut', WHERE WHAT IT READS IS OF BULK AT MOST 1048576: true; the input reads as it did. -/
def curveOutUptoRow : OpenClaim := { program := "ytdlmiiekcpbdcaa", sum := "1e92c18502f9113e468a42b4a079a688c6a9ed4bf00f2288e340ee9e92ef3829", func := "weirhouse/weirhousekeep.CurveOut", spec := "curveOut", unfollowed := true, recurses := true, apart := false, narrowed := true }
def CurveOutUptoSaid : Prop := curveOutUptoRow.holds Try.pinned (OpenSpec.upto curveOutSpec)

/-- 'weirhousekeep.CurveChain', WHERE WHAT IT READS IS OF BULK AT MOST 1048576: true; the input reads as it did. -/
def curveChainUptoRow : OpenClaim := { program := "ytdlmiiekcpbdcaa", sum := "1e92c18502f9113e468a42b4a079a688c6a9ed4bf00f2288e340ee9e92ef3829", func := "weirhouse/weirhousekeep.CurveChain", spec := "curveChain", unfollowed := true, recurses := true, apart := false, narrowed := true }
def CurveChainUptoSaid : Prop := curveChainUptoRow.holds Try.pinned (OpenSpec.upto curveChainSpec)

/-- 'weirhousekeep.CurveMore', WHERE WHAT IT READS IS OF BULK AT MOST 1048576: true; the input reads as it did. -/
def curveMoreUptoRow : OpenClaim := { program := "ytdlmiiekcpbdcaa", sum := "1e92c18502f9113e468a42b4a079a688c6a9ed4bf00f2288e340ee9e92ef3829", func := "weirhouse/weirhousekeep.CurveMore", spec := "curveMore", unfollowed := true, recurses := true, apart := false, narrowed := true }
def CurveMoreUptoSaid : Prop := curveMoreUptoRow.holds Try.pinned (OpenSpec.upto curveMoreSpec)

end Rows
end Go.Proofs.Ytdlmiiekcpbdcaa
