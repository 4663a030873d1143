/- Show: the model's l1show at blanks. -/
import Derived.Test.YtmpiadlmkeimdaaDoorShwD
import Derived.Test.YtmpiadlmkeimdaaDoorTokF
import Derived.ArgAppend
import Derived.Lib.SmallJoins
namespace Go.Proofs.YtmpiadlmkeimdaaDoor
open Go.RowKit Go.Deep
set_option maxRecDepth 100000

theorem grown_row {w4 : World} {B B' n : Nat} {v : Value} {us bs : List Int} (h : w4.ownsRow B' 5 1 v n (us.map (Value.int .u8) ++ bs.map (Value.int .u8))) (hn : 1 ≤ n) (hB : B ≤ B') :
    ∃ g cap, v = .slice (some ⟨g, 0, none⟩) n cap ∧ Row8 w4 B g n cap (us ++ bs) := by
  obtain ⟨h1, h2⟩ := h
  rw [← List.map_append] at h1 h2
  rcases h2 with ⟨_, h2⟩ | ⟨g, cap, cur, hv, hg, hh, hc⟩
  · omega
  · refine ⟨g, cap, hv, ⟨h1, .inr ⟨g, cap, cur, rfl, Nat.le_trans hB hg, hh, hc⟩⟩, ?_⟩
    apply Classical.byContradiction
    intro hlt
    rw [Array.getElem?_eq_none (by omega)] at hh
    cases hh

theorem l1show_blank (n : Nat) (s : Int) (a : Option Addr) (len cap : Nat) (w : World) (hn : n ≤ 9223372036854775807) :
    Calls Tryd.prog 22 #[.agg #[.int .i64 1, .slice a len cap, .int .i64 n, .int .i64 s]] w fun e w' => DigRes w (95 :: 58 :: digitsL n) e w' := by
  obtain ⟨i0, hi0, hzz⟩ := Option.map_eq_some_iff.1 Tryd.info5
  simp only [Prod.mk.injEq] at hzz
  obtain ⟨hi2, hi1, hi3⟩ := hzz
  have D := fun w => l1digits_any n w hn
  have hcv := fun o => Go.Joins.run_convert_bytes_const_at (P := Tryd.prog) (w.alloc o) 22 5 #[.int .u8 95, .int .u8 58] 2 2 (w.heap.size + 1) (by simp) Tryd.underlying22 Tryd.underlying5
  have hL := digitsL_len 19 n (by omega)
  have hp := digitsL_pos n
  have HO : Hid (∀ o j u, [Value.int .u8 95, Value.int .u8 58][j]? = some u → ((w.alloc o).alloc (.cells #[.int .u8 95, .int .u8 58] 5 (2, 3))).cell? ((⟨w.heap.size + 1, 0, none⟩ : Addr).add j) = some u) := by
    intro o j u hj
    have ea : (⟨w.heap.size + 1, 0, none⟩ : Addr).add j = ⟨w.heap.size + 1, j, none⟩ := by
      by_cases h0 : j = 0 <;> simp [Addr.add, h0]
    rw [ea, Go.Joins.cell_alloc_mark_at _ _ _ _ _ _ (by simp), ← hj]
    simp
  generalize digitsL n = ds at *
  go_enter Tryd.func22, Tryd.ntmps22
  go_wp2_with fail
  refine (D _).mono ?_
  rintro e w3 ⟨g3, cap3, rfl, hr3, hb3⟩
  have HO3 : Hid (∀ j u, [Value.int .u8 95, Value.int .u8 58][j]? = some u → w3.cell? ((⟨w.heap.size + 1, 0, none⟩ : Addr).add j) = some u) := by
    intro j u hj
    have ea : (⟨w.heap.size + 1, 0, none⟩ : Addr).add j = ⟨w.heap.size + 1, j, none⟩ := by
      by_cases h0 : j = 0 <;> simp [Addr.add, h0]
    have := fun o => HO.out o j u hj
    simp only [ea] at this ⊢
    rw [hb3.cell (by simp)]
    exact this _
  have HB3 : Hid (Below w.heap.size w w3) := bl_trans (bl_alloc (bl_a _) _) hb3
  have HN3 : Hid (∀ j u, (ds.map (Value.int .u8))[j]? = some u → w3.cell? ((⟨g3, 0, none⟩ : Addr).add j) = some u) := hr3.news
  clear hr3 hb3 HO D hcv
  go_wp2_with (refine wpList_append_grows _ rfl (.tmp 18) (.tmp 21) 22 rfl 5 i0 (.int .u8 0) 1 1 Tryd.underlying22 hi0 hi2 hi1 hi3 rfl (by omega) (some ⟨w.heap.size + 1, 0, none⟩) 2 2 [.int .u8 95, .int .u8 58] rfl (by simp) rfl (fun b hb => by cases hb; exact HO3.out) ⟨g3, 0, none⟩ ds.length _ (ds.map (Value.int .u8)) rfl (by simp) HN3.out (by intro u hu; simp only [List.mem_map] at hu; obtain ⟨q, _, rfl⟩ := hu; rfl) (by omega) (by unfold maxLen; omega) (by omega) ?_; intro v4 w4 hown4 hgr4; have H4 : Hid (∃ g4 cap4, v4 = .slice (some ⟨g4, 0, none⟩) (2 + ds.length) cap4 ∧ Row8 w4 w.heap.size g4 (2 + ds.length) cap4 (95 :: 58 :: ds)) := grown_row (us := [95, 58]) (bs := ds) hown4 (by omega) HB3.out.size; have HB4 : Hid (Below w.heap.size w w4) := HB3.out.trans ⟨hgr4.os, hgr4.tape, hgr4.output, hgr4.size, fun b hb => hgr4.block b (Nat.lt_of_lt_of_le hb HB3.out.size) (by simp)⟩; clear hown4 hgr4; obtain ⟨g4, cap4, rfl, hr4⟩ := H4.out)
  go_ret
  have el : (95 :: 58 :: ds : List Int).length = 2 + ds.length := by simp; omega
  exact ⟨g4, cap4, by rw [el]; rfl, by rw [el]; exact hr4, HB4.out⟩
end Go.Proofs.YtmpiadlmkeimdaaDoor
