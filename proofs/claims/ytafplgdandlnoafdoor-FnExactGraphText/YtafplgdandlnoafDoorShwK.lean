/- The law FnExactShow, walked. -/
import Derived.Test.YtafplgdandlnoafDoorShwJ
import Derived.Deep.RegionHeld3
namespace Go.Proofs.YtafplgdandlnoafDoor
open Go.RowKit Go.Deep
set_option maxRecDepth 100000

/-- A text that is marked from k on. -/
def Marked (w : World) (a : Option Addr) (len : Nat) (k : Int) : Prop := len = 0 ∨ ∃ g, a = some ⟨g, 0, none⟩ ∧ g < w.heap.size ∧ ∀ i, i < len → w.cell? ⟨g, i, none⟩ = some (.int .u8 ((k + (i : Nat)) % 256))
theorem Marked.below {w w' : World} {a : Option Addr} {len : Nat} {k : Int} (h : Marked w a len k) (hb : Below w.heap.size w w') : Marked w' a len k := by
  rcases h with h | ⟨g, ha, hl, hc⟩
  · exact .inl h
  · exact .inr ⟨g, ha, Nat.lt_of_lt_of_le hl hb.size, fun i hi => (hb.cell (p := ⟨g, i, none⟩) hl).trans (hc i hi)⟩
theorem Nw.but {w w' : World} {B g len : Nat} {a : Option Addr} {bs : List Int} (h : Nw w B a len bs) (hb : But g w w') (hg : g < B) : Nw w' B a len bs := by
  rcases h with h | ⟨g', ha, hB, ho⟩
  · exact .inl h
  · exact .inr ⟨g', ha, hB, ho.but hb (by omega)⟩

theorem mark_zero (a : Option Addr) (cap : Nat) (k : Int) (w : World) : Calls Tryd.prog 11 #[.slice a 0 cap, .int .i64 k] w fun e w' => e = .returned (.int .i64 k) ∧ w' = w := by
  go_enter Tryd.func11, Tryd.ntmps11
  go_wp2
  refine wp_loop_rounds 1 ?_
  rw [rounds_succ]
  go_wp2
  go_ret
  exact ⟨rfl, rfl⟩
/-- What marking a new text leaves. -/
def MarkRes (w : World) (B : Nat) (a : Option Addr) (len : Nat) (k : Int) (e : Ending) (w' : World) : Prop := e = .returned (.int .i64 (k + len)) ∧ Marked w' a len k ∧ Below B w w' ∧ w'.heap.size = w.heap.size
theorem mark_nw (a : Option Addr) (len cap B : Nat) (bs : List Int) (k : Int) (w : World) (h : Nw w B a len bs) (hk : 0 ≤ k) (hk2 : k ≤ 4194304) (hlen : len ≤ 1048576) :
    Calls Tryd.prog 11 #[.slice a len cap, .int .i64 k] w fun e w' => MarkRes w B a len k e w' := by
  rcases h with ⟨rfl, rfl, rfl⟩ | ⟨g, rfl, hB, ho⟩
  · refine (mark_zero none cap k w).mono ?_
    rintro e w' ⟨rfl, rfl⟩
    exact ⟨by simp, .inl rfl, Below.refl _ _, rfl⟩
  · refine (markByteS_own g len cap k w hk hk2 hlen ho.2.2.1 ho.2.2.2).mono ?_
    rintro e w' ⟨rfl, hb, hc, _⟩
    exact ⟨rfl, .inr ⟨g, rfl, by rw [hb.size]; exact ho.2.1, hc⟩, hb.below hB, hb.size⟩

theorem held_any (a : Option Addr) (len cap : Nat) (k : Int) (w : World) (h : Marked w a len k) (hk : 0 ≤ k) (hk2 : k ≤ 4194304) (hlen : len ≤ 1048576) :
    Calls Tryd.prog 12 #[.slice a len cap, .int .i64 k] w fun e w' => e = .returned (.int .i64 (k + len)) ∧ w' = w := by
  rcases h with rfl | ⟨g, rfl, hl, hc⟩
  · go_enter Tryd.func12, Tryd.ntmps12
    go_wp2
    refine wp_loop_rounds 1 ?_
    rw [rounds_succ]
    go_wp2
    go_ret
    exact ⟨by simp, rfl⟩
  · go_enter Tryd.func12, Tryd.ntmps12
    go_wp2
    go_loop [1, 5] (fun q i => ∃ j : Nat, j ≤ len ∧ i = .int .i64 j ∧ q = .int .i64 (k + j)) (fun _ i => len - (intOf i).toNat)
    case atStart => exact ⟨0, Nat.zero_le _, rfl, by simp⟩
    case round =>
      obtain ⟨j, hj, rfl, rfl⟩ := hrel
      by_cases hlt : j < len
      · have hx := hc j hlt
        have hw : IntKind.u8.wrap (k + (j : Int)) = (k + (j : Int)) % 256 := by rw [IntKind.wrap_u8]
        clear hc
        go_wp2
        go_round
        case rel => exact ⟨j + 1, by omega, by go_num, by go_num⟩
        case measure => simp [intOf]; omega
      · obtain rfl : j = len := by omega
        go_wp2
        go_ret
        exact ⟨rfl, rfl⟩
theorem bl_drewN {w : World} (q : Nat) : Below w.heap.size w (w.drewN q) := below_drewN (Below.refl _ _) q
theorem cell_drewS {w : World} : Below w.heap.size w w.drew := Below.drew (Below.refl _ _)

end Go.Proofs.YtafplgdandlnoafDoor
