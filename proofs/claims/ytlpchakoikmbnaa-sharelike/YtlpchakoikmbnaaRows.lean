/-
  No cell of these rows narrows 'for every input' (looked for: loops, veiled, ifaces, maps, wideKeys, modest, calm, conditions, laid).
  DERIVED. THE GIVEN ROWS OF THIS SEAT. 5 by the template 'for every input the law returns true; each argument reads behind the call as it read before'; 0 by the template 'total and deterministic' (their statements: YtlpchakoikmbnaaTotals.lean).
  GIVEN WITH THE SEED: the statements are not yours to turn. If you find one false, say at which input.
  Laid BY PROGRAM, IN A SANDBOX (cutbox-rows.mjs): the forced cells as the released guide's own fill.sh prints them over the translation d126de602f84c4b4… (all of the seat's roots in one cut). By AI agents, Wed Nov 11 2026. No macro, syntax, notation, axiom, sorry.
-/
import Derived.Test.YtlpchakoikmbnaaChecked
import GoSem.Claim
import GoSem.ClaimJoined
import GoSem.ClaimMapViews
import Derived.JoinedTies
import Derived.KernelRfl
namespace Go.Proofs.Ytlpchakoikmbnaa
/- THE CELL 'sum', in the pinned program and in every row, IS THE sha256 OF THE DUMP (.gsa) THAT YtlpchakoikmbnaaProg.lean LOADS. Nothing in Lean hashes anything: it is a label: what it is worth is what the hold of that sum in a sandbox is worth. -/
noncomputable def Try.pinned : Pinned := { name := "ytlpchakoikmbnaa", sum := "d126de602f84c4b470b2de13f16711c04feee5dbc66e84495e0c2d91d72f846b", checked := Try.checked }
namespace Rows
def none {H : Type} : Left H := { results := [], args := [] }

/-- 'weirhouselaw.ShareLevels': WHATEVER THE INPUT: true; the input reads as it did. -/
def shareLevelsSpec : ChangeSpec := { name := "shareLevels", fn := fun _ => fun
  | [d1, d2, d3] => { results := [.lit (.bool true)], args := [d1, d2, d3] }
  | _ => none }
def shareLevelsRow : OpenClaim := { program := "ytlpchakoikmbnaa", sum := "d126de602f84c4b470b2de13f16711c04feee5dbc66e84495e0c2d91d72f846b", func := "weirhouse/weirhouselaw.ShareLevels", spec := "shareLevels", unfollowed := true, recurses := true, apart := false }
def ShareLevelsSaid : Prop := shareLevelsRow.holds Try.pinned (OpenSpec.ofChange shareLevelsSpec)

/-- ITS FALSE NEIGHBOUR: 'it returns false'. Refute it at one input. -/
def shareLevelsWrong : ChangeSpec := { name := "shareLevels", fn := fun _ => fun
  | [d1, d2, d3] => { results := [.lit (.bool false)], args := [d1, d2, d3] }
  | _ => none }
def ShareLevelsWrongFalsely : Prop := shareLevelsRow.holds Try.pinned (OpenSpec.ofChange shareLevelsWrong)

/-- 'weirhousekeep.ShareAll': WHATEVER THE INPUT: true; the input reads as it did. -/
def shareAllSpec : ChangeSpec := { name := "shareAll", fn := fun _ => fun
  | [d1, d2, d3] => { results := [.lit (.bool true)], args := [d1, d2, d3] }
  | _ => none }
def shareAllRow : OpenClaim := { program := "ytlpchakoikmbnaa", sum := "d126de602f84c4b470b2de13f16711c04feee5dbc66e84495e0c2d91d72f846b", func := "weirhouse/weirhousekeep.ShareAll", spec := "shareAll", unfollowed := true, recurses := true, apart := false }
def ShareAllSaid : Prop := shareAllRow.holds Try.pinned (OpenSpec.ofChange shareAllSpec)

/-- ITS FALSE NEIGHBOUR: 'it returns false'. Refute it at one input. -/
def shareAllWrong : ChangeSpec := { name := "shareAll", fn := fun _ => fun
  | [d1, d2, d3] => { results := [.lit (.bool false)], args := [d1, d2, d3] }
  | _ => none }
def ShareAllWrongFalsely : Prop := shareAllRow.holds Try.pinned (OpenSpec.ofChange shareAllWrong)

/-- 'weirhousekeep.ShareFair': WHATEVER THE INPUT: true; the input reads as it did. -/
def shareFairSpec : ChangeSpec := { name := "shareFair", fn := fun _ => fun
  | [d1, d2, d3, d4] => { results := [.lit (.bool true)], args := [d1, d2, d3, d4] }
  | _ => none }
def shareFairRow : OpenClaim := { program := "ytlpchakoikmbnaa", sum := "d126de602f84c4b470b2de13f16711c04feee5dbc66e84495e0c2d91d72f846b", func := "weirhouse/weirhousekeep.ShareFair", spec := "shareFair", unfollowed := true, recurses := true, apart := false }
def ShareFairSaid : Prop := shareFairRow.holds Try.pinned (OpenSpec.ofChange shareFairSpec)

/-- ITS FALSE NEIGHBOUR: 'it returns false'. Refute it at one input. -/
def shareFairWrong : ChangeSpec := { name := "shareFair", fn := fun _ => fun
  | [d1, d2, d3, d4] => { results := [.lit (.bool false)], args := [d1, d2, d3, d4] }
  | _ => none }
def ShareFairWrongFalsely : Prop := shareFairRow.holds Try.pinned (OpenSpec.ofChange shareFairWrong)

/-- 'weirhousekeep.ShareMore': WHATEVER THE INPUT: true; the input reads as it did. -/
def shareMoreSpec : ChangeSpec := { name := "shareMore", fn := fun _ => fun
  | [d1, d2, d3, d4, d5, d6] => { results := [.lit (.bool true)], args := [d1, d2, d3, d4, d5, d6] }
  | _ => none }
def shareMoreRow : OpenClaim := { program := "ytlpchakoikmbnaa", sum := "d126de602f84c4b470b2de13f16711c04feee5dbc66e84495e0c2d91d72f846b", func := "weirhouse/weirhousekeep.ShareMore", spec := "shareMore", unfollowed := true, recurses := true, apart := false }
def ShareMoreSaid : Prop := shareMoreRow.holds Try.pinned (OpenSpec.ofChange shareMoreSpec)

/-- ITS FALSE NEIGHBOUR: 'it returns false'. Refute it at one input. -/
def shareMoreWrong : ChangeSpec := { name := "shareMore", fn := fun _ => fun
  | [d1, d2, d3, d4, d5, d6] => { results := [.lit (.bool false)], args := [d1, d2, d3, d4, d5, d6] }
  | _ => none }
def ShareMoreWrongFalsely : Prop := shareMoreRow.holds Try.pinned (OpenSpec.ofChange shareMoreWrong)

/-- 'weirhousekeep.ShareLike': WHATEVER THE INPUT: true; the input reads as it did. -/
def shareLikeSpec : ChangeSpec := { name := "shareLike", fn := fun _ => fun
  | [d1, d2, d3] => { results := [.lit (.bool true)], args := [d1, d2, d3] }
  | _ => none }
def shareLikeRow : OpenClaim := { program := "ytlpchakoikmbnaa", sum := "d126de602f84c4b470b2de13f16711c04feee5dbc66e84495e0c2d91d72f846b", func := "weirhouse/weirhousekeep.ShareLike", spec := "shareLike", unfollowed := true, recurses := true, apart := false }
def ShareLikeSaid : Prop := shareLikeRow.holds Try.pinned (OpenSpec.ofChange shareLikeSpec)

/-- ITS FALSE NEIGHBOUR: 'it returns false'. Refute it at one input. -/
def shareLikeWrong : ChangeSpec := { name := "shareLike", fn := fun _ => fun
  | [d1, d2, d3] => { results := [.lit (.bool false)], args := [d1, d2, d3] }
  | _ => none }
def ShareLikeWrongFalsely : Prop := shareLikeRow.holds Try.pinned (OpenSpec.ofChange shareLikeWrong)

/- THE SECOND FORM. 'bulk': how many values and letters a reading holds, each counted each time it is reached (what is shared counts as often as it is met; a slice's spare places count too). A statement '..UptoSaid' is the law's where the arguments, and the package variables that the reading takes, are together of bulk at most 1048576: NARROWER than '..Said'. Prove '..Said' where nothing that the law and all that it calls make is longer than what came in: it says more and counts as full. Else prove '..UptoSaid'. A law counts once. -/
mutual
def uptoBulk {H : Type} : DataW H → Nat
  | .lit (.string bytes) => bytes.length + 1
  | .lit _ => 1
  | .nil => 1
  | .ptr d => uptoBulk d + 1
  | .slice elems spare => uptoBulkAll elems + uptoBulkAll spare + 1
  | .agg parts => uptoBulkAll parts + 1
  | .iface _ d => uptoBulk d + 1
  | .map entries => uptoBulkEntries entries + 1
  | .held _ => 1
def uptoBulkAll {H : Type} : List (DataW H) → Nat
  | [] => 0
  | d :: r => uptoBulk d + uptoBulkAll r
def uptoBulkEntries {H : Type} : List (Lit × DataW H) → Nat
  | [] => 0
  | x :: r => uptoBulkEntry x + uptoBulkEntries r
def uptoBulkEntry {H : Type} : Lit × DataW H → Nat
  | (.string bytes, d) => bytes.length + uptoBulk d + 1
  | (_, d) => uptoBulk d + 1
 end
def uptoSmall : (H : Type) → List (DataW H) → Bool := fun _ ds => decide (uptoBulkAll ds ≤ 1048576)
def OpenSpec.upto (s : _root_.Go.ChangeSpec) : _root_.Go.OpenSpec := { _root_.Go.OpenSpec.ofChange s with cond := some uptoSmall }

/-- 'weirhouselaw.ShareLevels', WHERE WHAT IT READS IS OF BULK AT MOST 1048576: true; the input reads as it did. -/
def shareLevelsUptoRow : OpenClaim := { program := "ytlpchakoikmbnaa", sum := "d126de602f84c4b470b2de13f16711c04feee5dbc66e84495e0c2d91d72f846b", func := "weirhouse/weirhouselaw.ShareLevels", spec := "shareLevels", unfollowed := true, recurses := true, apart := false, narrowed := true }
def ShareLevelsUptoSaid : Prop := shareLevelsUptoRow.holds Try.pinned (OpenSpec.upto shareLevelsSpec)

/-- 'weirhousekeep.ShareAll', WHERE WHAT IT READS IS OF BULK AT MOST 1048576: true; the input reads as it did. -/
def shareAllUptoRow : OpenClaim := { program := "ytlpchakoikmbnaa", sum := "d126de602f84c4b470b2de13f16711c04feee5dbc66e84495e0c2d91d72f846b", func := "weirhouse/weirhousekeep.ShareAll", spec := "shareAll", unfollowed := true, recurses := true, apart := false, narrowed := true }
def ShareAllUptoSaid : Prop := shareAllUptoRow.holds Try.pinned (OpenSpec.upto shareAllSpec)

/-- 'weirhousekeep.ShareFair', WHERE WHAT IT READS IS OF BULK AT MOST 1048576: true; the input reads as it did. -/
def shareFairUptoRow : OpenClaim := { program := "ytlpchakoikmbnaa", sum := "d126de602f84c4b470b2de13f16711c04feee5dbc66e84495e0c2d91d72f846b", func := "weirhouse/weirhousekeep.ShareFair", spec := "shareFair", unfollowed := true, recurses := true, apart := false, narrowed := true }
def ShareFairUptoSaid : Prop := shareFairUptoRow.holds Try.pinned (OpenSpec.upto shareFairSpec)

/-- 'weirhousekeep.ShareMore', WHERE WHAT IT READS IS OF BULK AT MOST 1048576: true; the input reads as it did. -/
def shareMoreUptoRow : OpenClaim := { program := "ytlpchakoikmbnaa", sum := "d126de602f84c4b470b2de13f16711c04feee5dbc66e84495e0c2d91d72f846b", func := "weirhouse/weirhousekeep.ShareMore", spec := "shareMore", unfollowed := true, recurses := true, apart := false, narrowed := true }
def ShareMoreUptoSaid : Prop := shareMoreUptoRow.holds Try.pinned (OpenSpec.upto shareMoreSpec)

/-- 'weirhousekeep.ShareLike', WHERE WHAT IT READS IS OF BULK AT MOST 1048576: true; the input reads as it did. -/
def shareLikeUptoRow : OpenClaim := { program := "ytlpchakoikmbnaa", sum := "d126de602f84c4b470b2de13f16711c04feee5dbc66e84495e0c2d91d72f846b", func := "weirhouse/weirhousekeep.ShareLike", spec := "shareLike", unfollowed := true, recurses := true, apart := false, narrowed := true }
def ShareLikeUptoSaid : Prop := shareLikeUptoRow.holds Try.pinned (OpenSpec.upto shareLikeSpec)

end Rows
end Go.Proofs.Ytlpchakoikmbnaa
