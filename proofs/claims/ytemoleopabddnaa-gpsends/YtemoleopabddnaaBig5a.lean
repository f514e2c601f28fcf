/- A row laid into a number, and trimmed. -/
import Derived.Test.YtemoleopabddnaaBig4a
import Derived.Deep.RegionWith
namespace Go.Proofs.Ytemoleopabddnaa
open Go.RowKit

theorem below_drew2 (w : World) (k : Nat) : Below w.heap.size w (w.drewN k).drew := ⟨rfl, rfl, rfl, Nat.le_refl _, fun _ _ => rfl⟩
theorem trim_laid (w W w1 : World) (gz b L m : Nat) (s : Bool) (h : Nat → Nat) {h0 : Nat → Value} (e : Below w.heap.size w W) (k7 : Below W.heap.size W w1) (hz0 : w.rowIs gz 45 2 h0)
    (k4 : w1.rowIs b 62 m (fun j => .int .u32 (h j))) (k1 : L ≤ m) (k2 : m ≤ 1000000) (k5 : Small L h) (hv : Fits (val L h)) :
    Calls Try.prog 52 #[.pointer (some ⟨gz, 0, none⟩)] ((w1.setCell ⟨gz, 0, none⟩ (.bool s)).setCell ⟨gz, 1, none⟩ (.slice (some ⟨b, 0, none⟩) L m)) fun e w' =>
      e = .returned (.pointer (some ⟨gz, 0, none⟩)) ∧ w.grownBy w' (some gz) ∧ IntAt w' gz (sg s (val L h)) := by
  have hb : Below w.heap.size w w1 := e.trans (k7.mono e.size)
  have hz1 := hz0.of_block (hb.block gz hz0.lt)
  have hgr : w1.grownBy ((w1.setCell ⟨gz, 0, none⟩ (.bool s)).setCell ⟨gz, 1, none⟩ (.slice (some ⟨b, 0, none⟩) L m)) (some gz) := grown_here (grown_here (World.grownBy.refl w1 _) 0 _) 1 _
  refine (trim_raw gz s (some ⟨b, 0, none⟩) L m h _ (two_of hz1 _ _) k1 (by omega) ((NewRow.dig k4 k1).only hz1 hgr) k5 hv).mono ?_
  rintro e w' ⟨rfl, h1, h2⟩
  exact ⟨rfl, grown_trans (grown_trans (grown_of_below hb) hgr) h1, h2⟩
end Go.Proofs.Ytemoleopabddnaa
