/-
  No cell of these rows narrows 'for every input' (looked for: loops, veiled, ifaces, maps, wideKeys, modest, calm, conditions, laid).
  DERIVED. THE GIVEN ROWS OF THIS SEAT. 4 by the template 'for every input the law returns true; each argument reads behind the call as it read before'; 0 by the template 'total and deterministic' (their statements: YtobkepipmmkboaaTotals.lean).
  GIVEN WITH THE SEED: the statements are not yours to turn. If you find one false, say at which input.
  Laid BY PROGRAM, IN A SANDBOX (cutbox-rows.mjs): the forced cells as the released guide's own fill.sh prints them over the translation 9fdad3fa78b5fe83… (all of the seat's roots in one cut). By AI agents, Wed Nov 11 2026. No macro, syntax, notation, axiom, sorry.
-/
import Derived.Test.YtobkepipmmkboaaChecked
import GoSem.Claim
import GoSem.ClaimJoined
import GoSem.ClaimMapViews
import Derived.JoinedTies
import Derived.KernelRfl
namespace Go.Proofs.Ytobkepipmmkboaa
/- THE CELL 'sum', in the pinned program and in every row, IS THE sha256 OF THE DUMP (.gsa) THAT YtobkepipmmkboaaProg.lean LOADS. Nothing in Lean hashes anything: it is a label: what it is worth is what the hold of that sum in a sandbox is worth. -/
noncomputable def Try.pinned : Pinned := { name := "ytobkepipmmkboaa", sum := "9fdad3fa78b5fe83a7af92f7c784c38aaf1a9cadfa70214d2e7500a4908ab305", checked := Try.checked }
namespace Rows
def none {H : Type} : Left H := { results := [], args := [] }

/-- 'weirhouselaw.ScfqPlays': WHATEVER THE INPUT: true; the input reads as it did. -/
def scfqPlaysSpec : ChangeSpec := { name := "scfqPlays", fn := fun _ => fun
  | [d1, d2] => { results := [.lit (.bool true)], args := [d1, d2] }
  | _ => none }
def scfqPlaysRow : OpenClaim := { program := "ytobkepipmmkboaa", sum := "9fdad3fa78b5fe83a7af92f7c784c38aaf1a9cadfa70214d2e7500a4908ab305", func := "weirhouse/weirhouselaw.ScfqPlays", spec := "scfqPlays", unfollowed := true, recurses := true, apart := false }
def ScfqPlaysSaid : Prop := scfqPlaysRow.holds Try.pinned (OpenSpec.ofChange scfqPlaysSpec)

/-- ITS FALSE NEIGHBOUR: 'it returns false'. Refute it at one input. -/
def scfqPlaysWrong : ChangeSpec := { name := "scfqPlays", fn := fun _ => fun
  | [d1, d2] => { results := [.lit (.bool false)], args := [d1, d2] }
  | _ => none }
def ScfqPlaysWrongFalsely : Prop := scfqPlaysRow.holds Try.pinned (OpenSpec.ofChange scfqPlaysWrong)

/-- 'weirhousekeep.ScfqOrder': WHATEVER THE INPUT: true; the input reads as it did. -/
def scfqOrderSpec : ChangeSpec := { name := "scfqOrder", fn := fun _ => fun
  | [d1, d2] => { results := [.lit (.bool true)], args := [d1, d2] }
  | _ => none }
def scfqOrderRow : OpenClaim := { program := "ytobkepipmmkboaa", sum := "9fdad3fa78b5fe83a7af92f7c784c38aaf1a9cadfa70214d2e7500a4908ab305", func := "weirhouse/weirhousekeep.ScfqOrder", spec := "scfqOrder", unfollowed := true, recurses := true, apart := false }
def ScfqOrderSaid : Prop := scfqOrderRow.holds Try.pinned (OpenSpec.ofChange scfqOrderSpec)

/-- ITS FALSE NEIGHBOUR: 'it returns false'. Refute it at one input. -/
def scfqOrderWrong : ChangeSpec := { name := "scfqOrder", fn := fun _ => fun
  | [d1, d2] => { results := [.lit (.bool false)], args := [d1, d2] }
  | _ => none }
def ScfqOrderWrongFalsely : Prop := scfqOrderRow.holds Try.pinned (OpenSpec.ofChange scfqOrderWrong)

/-- 'weirhousekeep.ScfqFair': WHATEVER THE INPUT: true; the input reads as it did. -/
def scfqFairSpec : ChangeSpec := { name := "scfqFair", fn := fun _ => fun
  | [d1, d2, d3, d4] => { results := [.lit (.bool true)], args := [d1, d2, d3, d4] }
  | _ => none }
def scfqFairRow : OpenClaim := { program := "ytobkepipmmkboaa", sum := "9fdad3fa78b5fe83a7af92f7c784c38aaf1a9cadfa70214d2e7500a4908ab305", func := "weirhouse/weirhousekeep.ScfqFair", spec := "scfqFair", unfollowed := true, recurses := true, apart := false }
def ScfqFairSaid : Prop := scfqFairRow.holds Try.pinned (OpenSpec.ofChange scfqFairSpec)

/-- ITS FALSE NEIGHBOUR: 'it returns false'. Refute it at one input. -/
def scfqFairWrong : ChangeSpec := { name := "scfqFair", fn := fun _ => fun
  | [d1, d2, d3, d4] => { results := [.lit (.bool false)], args := [d1, d2, d3, d4] }
  | _ => none }
def ScfqFairWrongFalsely : Prop := scfqFairRow.holds Try.pinned (OpenSpec.ofChange scfqFairWrong)

/-- 'weirhousekeep.ScfqLight': WHATEVER THE INPUT: true; the input reads as it did. -/
def scfqLightSpec : ChangeSpec := { name := "scfqLight", fn := fun _ => fun
  | [d1, d2] => { results := [.lit (.bool true)], args := [d1, d2] }
  | _ => none }
def scfqLightRow : OpenClaim := { program := "ytobkepipmmkboaa", sum := "9fdad3fa78b5fe83a7af92f7c784c38aaf1a9cadfa70214d2e7500a4908ab305", func := "weirhouse/weirhousekeep.ScfqLight", spec := "scfqLight", unfollowed := true, recurses := true, apart := false }
def ScfqLightSaid : Prop := scfqLightRow.holds Try.pinned (OpenSpec.ofChange scfqLightSpec)

/-- ITS FALSE NEIGHBOUR: 'it returns false'. Refute it at one input. -/
def scfqLightWrong : ChangeSpec := { name := "scfqLight", fn := fun _ => fun
  | [d1, d2] => { results := [.lit (.bool false)], args := [d1, d2] }
  | _ => none }
def ScfqLightWrongFalsely : Prop := scfqLightRow.holds Try.pinned (OpenSpec.ofChange scfqLightWrong)

/- THE SECOND FORM. 'bulk': how many values and letters a reading holds, each counted each time it is reached (what is shared counts as often as it is met; a slice's spare places count too). A statement '..UptoSaid' is the law's where the arguments, and the package variables that the reading takes, are together of bulk at most 1048576: NARROWER than '..Said'. Prove '..Said' where nothing that the law and all that it calls make is longer than what came in: it says more and counts as full. Else prove '..UptoSaid'. A law counts once. -/
mutual
def uptoBulk {H : Type} : DataW H → Nat
  | .lit (.string bytes) => bytes.length + 1
  | .lit _ => 1
  | .nil => 1
  | .ptr d => uptoBulk d + 1
  | .slice elems spare => uptoBulkAll elems + uptoBulkAll spare + 1
  | .agg parts => uptoBulkAll parts + 1
  | .iface _ d => uptoBulk d + 1
  | .map entries => uptoBulkEntries entries + 1
  | .held _ => 1
def uptoBulkAll {H : Type} : List (DataW H) → Nat
  | [] => 0
  | d :: r => uptoBulk d + uptoBulkAll r
def uptoBulkEntries {H : Type} : List (Lit × DataW H) → Nat
  | [] => 0
  | x :: r => uptoBulkEntry x + uptoBulkEntries r
def uptoBulkEntry {H : Type} : Lit × DataW H → Nat
  | (.string bytes, d) => bytes.length + uptoBulk d + 1
  | (_, d) => uptoBulk d + 1
 end
def uptoSmall : (H : Type) → List (DataW H) → Bool := fun _ ds => decide (uptoBulkAll ds ≤ 1048576)
def OpenSpec.upto (s : _root_.Go.ChangeSpec) : _root_.Go.OpenSpec := { _root_.Go.OpenSpec.ofChange s with cond := some uptoSmall }

/-- 'weirhouselaw.ScfqPlays', WHERE WHAT IT READS IS OF BULK AT MOST 1048576: true; the input reads as it did. -/
def scfqPlaysUptoRow : OpenClaim := { program := "ytobkepipmmkboaa", sum := "9fdad3fa78b5fe83a7af92f7c784c38aaf1a9cadfa70214d2e7500a4908ab305", func := "weirhouse/weirhouselaw.ScfqPlays", spec := "scfqPlays", unfollowed := true, recurses := true, apart := false, narrowed := true }
def ScfqPlaysUptoSaid : Prop := scfqPlaysUptoRow.holds Try.pinned (OpenSpec.upto scfqPlaysSpec)

/-- 'weirhousekeep.ScfqOrder', WHERE WHAT IT READS IS OF BULK AT MOST 1048576: true; the input reads as it did. -/
def scfqOrderUptoRow : OpenClaim := { program := "ytobkepipmmkboaa", sum := "9fdad3fa78b5fe83a7af92f7c784c38aaf1a9cadfa70214d2e7500a4908ab305", func := "weirhouse/weirhousekeep.ScfqOrder", spec := "scfqOrder", unfollowed := true, recurses := true, apart := false, narrowed := true }
def ScfqOrderUptoSaid : Prop := scfqOrderUptoRow.holds Try.pinned (OpenSpec.upto scfqOrderSpec)

/-- 'weirhousekeep.ScfqFair', WHERE WHAT IT READS IS OF BULK AT MOST 1048576: true; the input reads as it did. -/
def scfqFairUptoRow : OpenClaim := { program := "ytobkepipmmkboaa", sum := "9fdad3fa78b5fe83a7af92f7c784c38aaf1a9cadfa70214d2e7500a4908ab305", func := "weirhouse/weirhousekeep.ScfqFair", spec := "scfqFair", unfollowed := true, recurses := true, apart := false, narrowed := true }
def ScfqFairUptoSaid : Prop := scfqFairUptoRow.holds Try.pinned (OpenSpec.upto scfqFairSpec)

/-- 'weirhousekeep.ScfqLight', WHERE WHAT IT READS IS OF BULK AT MOST 1048576: true; the input reads as it did. -/
def scfqLightUptoRow : OpenClaim := { program := "ytobkepipmmkboaa", sum := "9fdad3fa78b5fe83a7af92f7c784c38aaf1a9cadfa70214d2e7500a4908ab305", func := "weirhouse/weirhousekeep.ScfqLight", spec := "scfqLight", unfollowed := true, recurses := true, apart := false, narrowed := true }
def ScfqLightUptoSaid : Prop := scfqLightUptoRow.holds Try.pinned (OpenSpec.upto scfqLightSpec)

end Rows
end Go.Proofs.Ytobkepipmmkboaa
