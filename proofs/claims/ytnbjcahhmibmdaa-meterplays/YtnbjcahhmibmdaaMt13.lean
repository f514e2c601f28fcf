/- The reference: JColour. -/
import Derived.Test.YtnbjcahhmibmdaaMt11
import Derived.Test.YtnbjcahhmibmdaaMt12
namespace Go.Proofs.Ytnbjcahhmibmdaa
open Go.RowKit Go.Maps

theorem jColour_any (b : Mt) (t n had : Int) (w : World) :
    Calls Try.prog 10 #[.agg b.cells, .agg #[.int .i64 t, .int .i64 n], .int .i64 had] w (Told w (b.colour t n had)) := by
  cases hr : b.right with
  | false => exact jColour_form hr w
  | true =>
    by_cases h1 : had < 1
    · exact jColour_low hr h1 w
    · by_cases h3 : 3 < had
      · exact jColour_high hr h1 h3 w
      · by_cases k : t < b.tm ∨ (¬ t < b.tm ∧ 1099511627776 < t) ∨ (¬ t < b.tm ∧ ¬ 1099511627776 < t ∧ n < 0) ∨ (¬ t < b.tm ∧ ¬ 1099511627776 < t ∧ ¬ n < 0 ∧ 1048576 < n)
        · exact jColour_range hr h1 h3 k w
        · by_cases hv : b.come t < 4194304
          · exact jColour_small hr h1 h3 (by omega) (by omega) (by omega) (by omega) hv w
          · exact jColour_great hr h1 h3 (by omega) (by omega) (by omega) (by omega) hv w
end Go.Proofs.Ytnbjcahhmibmdaa
