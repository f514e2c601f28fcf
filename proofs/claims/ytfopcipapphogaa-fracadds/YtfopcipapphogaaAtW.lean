/- A number of 128 bits in memory: where it lies, and what leaves it as it was. -/
import Derived.Test.YtfopcipapphogaaBase
namespace Go.Proofs.Ytfopcipapphogaa
open Go.RowKit

/-- A number of 128 bits lies in block b. -/
def At (w : World) (b : Nat) (h l : Int) : Prop := w.cell? ⟨b, 0, none⟩ = some (.int .u64 h) ∧ w.cell? ⟨b, 1, none⟩ = some (.int .u64 l) ∧ b < w.heap.size ∧ w.frozen? ⟨b, 0, none⟩ = false ∧ w.frozen? ⟨b, 1, none⟩ = false
theorem At.below {W w' : World} {b : Nat} {h l : Int} (p : At W b h l) (hb : Below W.heap.size W w') : At w' b h l :=
  ⟨(hb.cell (p := ⟨b, 0, none⟩) p.2.2.1).trans p.1, (hb.cell (p := ⟨b, 1, none⟩) p.2.2.1).trans p.2.1, Nat.lt_of_lt_of_le p.2.2.1 hb.size,
    (hb.frozen (p := ⟨b, 0, none⟩) p.2.2.1).trans p.2.2.2.1, (hb.frozen (p := ⟨b, 1, none⟩) p.2.2.1).trans p.2.2.2.2⟩
theorem At.alloc {W : World} {b : Nat} {h l : Int} (p : At W b h l) (o : Obj) : At (W.alloc o) b h l :=
  p.below ((Below.refl _ _).alloc (Nat.le_refl _) o)
theorem At.drewN {W : World} {b : Nat} {h l : Int} (p : At W b h l) (n : Nat) : At (W.drewN n) b h l := p
theorem At.new (w : World) (h l : Int) : At (w.alloc (.cells #[.int .u64 h, .int .u64 l] 24)) w.heap.size h l := by
  refine ⟨?_, ?_, ?_, ?_, ?_⟩ <;> simp [go_sem]
theorem At.at_ {W : World} {b b' : Nat} {h l : Int} (p : At W b h l) (e : b = b') : At W b' h l := e ▸ p
end Go.Proofs.Ytfopcipapphogaa
