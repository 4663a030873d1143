/- Texts put together: ShwD ShwE -/
import Derived.Test.YtdcaicoomldmgaaGreatDoorMk19
import Derived.Test.YtdcaicoomldmgaaGreatDoorMk03
import Derived.Test.YtdcaicoomldmgaaGreatDoorMk05
import Derived.ArgAppend
import Derived.Lib.SmallJoins
/- ShwD -/
namespace Go.Proofs.YtdcaicoomldmgaaGreatDoor
open Go.RowKit Go.Deep
end Go.Proofs.YtdcaicoomldmgaaGreatDoor

/- ShwE -/
namespace Go.Proofs.YtdcaicoomldmgaaGreatDoor
open Go.RowKit Go.Deep
set_option maxRecDepth 100000

theorem grown_row {w4 : World} {B B' n : Nat} {v : Value} {us bs : List Int} (h : w4.ownsRow B' 5 1 v n (us.map (Value.int .u8) ++ bs.map (Value.int .u8))) (hn : 1 ≤ n) (hB : B ≤ B') :
    ∃ g cap, v = .slice (some ⟨g, 0, none⟩) n cap ∧ Row8 w4 B g n cap (us ++ bs) := by
  obtain ⟨h1, h2⟩ := h
  rw [← List.map_append] at h1 h2
  rcases h2 with ⟨_, h2⟩ | ⟨g, cap, cur, hv, hg, hh, hc⟩
  · omega
  · refine ⟨g, cap, hv, ⟨h1, .inr ⟨g, cap, cur, rfl, Nat.le_trans hB hg, hh, hc⟩⟩, ?_⟩
    apply Classical.byContradiction
    intro hlt
    rw [Array.getElem?_eq_none (by omega)] at hh
    cases hh

end Go.Proofs.YtdcaicoomldmgaaGreatDoor
