/- Show: the model's l1show at names and blanks. -/
import Derived.Test.YtmpiadlmkeimdaaDoorShwA
namespace Go.Proofs.YtmpiadlmkeimdaaDoor
open Go.RowKit Go.Deep
set_option maxRecDepth 100000

theorem one_news (w : World) (x : Int) : ∀ j u, [Value.int .u8 x][j]? = some u → (w.alloc (.cells #[.int .u8 x] 5)).cell? ((⟨w.heap.size, 0, none⟩ : Addr).add j) = some u := by
  intro j u hj
  have hj0 : j = 0 := by
    cases j with
    | zero => rfl
    | succ j => simp at hj
  subst hj0
  simp at hj
  subst hj
  simp [Addr.add, go_sem]
theorem bs_news {w : World} {b off len : Nat} {bs : List Int} (h : Bs w (some ⟨b, off, none⟩) len bs) : ∀ j u, (bs.map (Value.int .u8))[j]? = some u → w.cell? ((⟨b, off, none⟩ : Addr).add j) = some u := by
  intro j u hj
  obtain ⟨h1, _, _, h4⟩ := h
  have hjl : j < bs.length := by
    apply Classical.byContradiction
    intro hn
    rw [List.getElem?_eq_none (by simp; omega)] at hj
    cases hj
  obtain ⟨b', off', ha, _, hc⟩ := h4.resolve_left (by omega)
  cases ha
  have ea : (⟨b, off, none⟩ : Addr).add j = ⟨b, off + j, none⟩ := by
    by_cases h0 : j = 0 <;> simp [Addr.add, h0]
  rw [ea, hc j (by omega), ← hj]
  simp [List.getElem?_eq_getElem hjl]
theorem Row8.ge {w : World} {B g n cap : Nat} {bs : List Int} (h : Row8 w B g n cap bs) : B ≤ g := by
  rcases h.1.2 with ⟨h, _⟩ | ⟨g', cap', cur, hv, hB, _⟩
  · cases h
  · cases hv; exact hB
theorem oneCell_map (bs : List Int) : ∀ u ∈ bs.map (Value.int .u8), u.oneCell' = true := by
  intro u hu
  obtain ⟨x, _, rfl⟩ := List.mem_map.1 hu
  rfl
/-- A row that has grown. -/
theorem Row8.grown {w3 : World} {B g n cap : Nat} {us bs : List Int} {vs : List Value} (h : w3.ownsRow B 5 1 (.slice (some ⟨g, 0, none⟩) n cap) n (us.map (Value.int .u8) ++ vs)) (hv : vs = bs.map (Value.int .u8)) (hl : g < w3.heap.size) : Row8 w3 B g n cap (us ++ bs) := by
  subst hv
  rw [← List.map_append] at h
  exact ⟨h, hl⟩

theorem l1show_name (n s : Int) (b off len cap : Nat) (bs : List Int) (w : World) (hB : Bs w (some ⟨b, off, none⟩) len bs) (h1 : 1 ≤ len) :
    Calls Tryd.prog 22 #[.agg #[.int .i64 0, .slice (some ⟨b, off, none⟩) len cap, .int .i64 n, .int .i64 s]] w fun e w' => DigRes w (60 :: (bs ++ [62])) e w' := by
  obtain ⟨i0, hi0, hzz⟩ := Option.map_eq_some_iff.1 Tryd.info5
  simp only [Prod.mk.injEq] at hzz
  obtain ⟨hi2, hi1, hi3⟩ := hzz
  have hlen := hB.1
  have h20 := hB.2.1
  have R1 : ∀ o, Row8 ((w.alloc o).alloc (.cells #[.int .u8 60] 5)) w.heap.size (w.heap.size + 1) 1 1 [60] := fun o => by
    have := (Row8.new (w.alloc o) 60).mono (B' := w.heap.size) (by simp)
    simpa using this
  have HN : Hid (∀ o o', ∀ j u, (bs.map (Value.int .u8))[j]? = some u → ((w.alloc o).alloc o').cell? ((⟨b, off, none⟩ : Addr).add j) = some u) := fun o o' => bs_news (hB.below (bl_alloc (bl_a _) _))
  have HR : Hid (∀ o, Row8 ((w.alloc o).alloc (.cells #[.int .u8 60] 5)) w.heap.size (w.heap.size + 1) 1 1 [60]) := R1
  clear R1 hB
  go_enter Tryd.func22, Tryd.ntmps22
  go_wp2_with (first
    | (refine wpList_append_lies _ rfl (.tmp 9) (.tmp 11) 22 rfl w.heap.size 5 i0 (.int .u8 0) 1 1 Tryd.underlying22 hi0 hi2 hi1 hi3 rfl (by omega) (.slice (some ⟨w.heap.size + 1, 0, none⟩) 1 1) 1 [.int .u8 60] rfl (HR.out _).1 ⟨b, off, none⟩ len _ (bs.map (Value.int .u8)) rfl (by simp [hlen]) (HN.out _ _) (oneCell_map bs) (by omega) (by unfold maxLen; omega) (by omega) (bl_alloc (bl_a _) _).size _ rfl ?_; intro g3 cap3 w3 hown3 hgr3 hgg3 hlt3; have hr3 := Row8.grown (us := [60]) hown3 rfl hlt3; have hb3 : Below w.heap.size w w3 := (bl_alloc (bl_a _) _).trans (grown_below (g := w.heap.size + 1) hgr3 (Nat.le_succ _) (bl_alloc (bl_a _) _).size); clear hown3 hgr3 hgg3; have HR3 : Hid (Row8 (w3.alloc (.cells #[.int .u8 62] 5)) w.heap.size g3 (1 + len) cap3 ([60] ++ bs)) := hr3.below (bl_a _); have HB3 : Hid (Below w.heap.size w (w3.alloc (.cells #[.int .u8 62] 5))) := bl_alloc hb3 _; clear hr3 hb3)
    | (refine wpList_append_lies _ rfl (.tmp 12) (.tmp 13) 22 rfl w.heap.size 5 i0 (.int .u8 0) 1 1 Tryd.underlying22 hi0 hi2 hi1 hi3 rfl (by omega) (.slice (some ⟨g3, 0, none⟩) (1 + len) cap3) (1 + len) (([60] ++ bs).map (Value.int .u8)) rfl HR3.out.1 ⟨w3.heap.size, 0, none⟩ 1 _ [.int .u8 62] rfl rfl (one_news w3 62) (by simp [Value.oneCell']) (by omega) (by unfold maxLen; omega) (by omega) HB3.out.size _ rfl ?_; intro g4 cap4 w4 hown4 hgr4 hgg4 hlt4; have hr4 := Row8.grown (us := [60] ++ bs) (bs := [62]) hown4 rfl hlt4; have hb4 : Below w.heap.size w w4 := HB3.out.trans (grown_below (g := g3) hgr4 HR3.out.ge HB3.out.size); clear hown4 hgr4 hgg4))
  go_ret
  have el : (60 :: (bs ++ [62]) : List Int).length = 1 + len + 1 := by simp [hlen]; omega
  exact ⟨g4, cap4, by rw [el]; rfl, by rw [el]; exact hr4, hb4⟩

theorem Row8.two (w : World) (x y : Int) : Row8 (w.alloc (.cells #[.int .u8 x, .int .u8 y] 5)) w.heap.size w.heap.size 2 2 [x, y] := by
  refine ⟨⟨rfl, .inr ⟨w.heap.size, 2, #[.int .u8 x, .int .u8 y], rfl, Nat.le_refl _, by simp [World.alloc, -World.alloc_eq], by omega, by unfold maxLen; omega, rfl, rfl⟩⟩, by simp⟩
theorem Row8.news {w : World} {B g n cap : Nat} {bs : List Int} (h : Row8 w B g n cap bs) : ∀ j u, (bs.map (Value.int .u8))[j]? = some u → w.cell? ((⟨g, 0, none⟩ : Addr).add j) = some u := by
  intro j u hj
  obtain ⟨⟨h1, h2⟩, hl⟩ := h
  rcases h2 with ⟨h2, _⟩ | ⟨g', cap', cur, hv, hB, hh, hle, _, hsz, htk⟩
  · cases h2
  · cases hv
    have ea : (⟨g, 0, none⟩ : Addr).add j = ⟨g, 0 + j, none⟩ := by
      by_cases h0 : j = 0 <;> simp [Addr.add, h0]
    rw [ea, ← hj, ← htk, List.getElem?_take]
    have hjl : j < bs.length := by
      apply Classical.byContradiction
      intro hn
      rw [List.getElem?_eq_none (by simp; omega)] at hj
      cases hj
    have hbl : bs.length = n := by simpa using h1
    rw [if_pos (by omega)]
    simp [World.cell?, hh]
theorem digitsL_pos (n : Nat) : 1 ≤ (digitsL n).length := by
  by_cases h : n < 10
  · rw [digitsL_small h]; simp
  · rw [digitsL_step h]; simp

end Go.Proofs.YtmpiadlmkeimdaaDoor
