/- Texts put together: LxJ4 LxJ5 LxJ6 -/
import Derived.Test.YtoclingolfdfeaaGreatDoorMk23
/- LxJ4 -/
namespace Go.Proofs.YtoclingolfdfeaaGreatDoor
open Go.RowKit Go.Deep
set_option maxRecDepth 100000

set_option maxHeartbeats 16000000 in
theorem l2one_blank (b0 off0 len cap : Nat) (bs : List Int) (i : Nat) (w : World) (hB : Bs w (some ⟨b0, off0, none⟩) len bs) (hl3 : len ≤ 100000) (hcap : len ≤ cap) (hi : i < len) (hch : bs[i]? = some 95) (h58 : (bs.drop (i + 1))[0]? = some 58) :
    Calls Tryz.prog 81 #[.slice (some ⟨b0, off0, none⟩) len cap, .int .i64 i] w (TokA (tokOf (bs.drop i)) i w) := by
  have HB : Hid (Bs w (some ⟨b0, off0, none⟩) len bs) := hB
  have HN : Hid (bs.length = len) := hB.1
  obtain ⟨b0', off0', c, e0, hc, hd, c0, c1⟩ := hB.byte hi
  cases e0
  have HD : Hid (bs.drop i = c :: bs.drop (i + 1)) := hd
  have hiz : (i : Int) < (len : Int) := by omega
  have hic : i ≤ cap := by omega
  have hicn : ¬ cap = i := by omega
  have hc1 : (w.alloc (.cells [.int .i64 0, .int .i64 0, .int .i64 0, .slice none 0 0, .int .i64 0, .int .i64 0, .slice none 0 0].toArray 77)).cell? ⟨b0, off0 + i, none⟩ = some (.int .u8 c) := ((bl_a (w := w) _).cell (p := ⟨b0, off0 + i, none⟩) (cell_ltC hc)).trans hc
  have HW2 : Hid (Below w.heap.size w ((w.alloc (.cells [.int .i64 0, .int .i64 0, .int .i64 0, .slice none 0 0, .int .i64 0, .int .i64 0, .slice none 0 0].toArray 77)).alloc (.cells [.int .i64 1, .int .i64 i, .int .i64 0, .slice none 0 0, .int .i64 0, .int .i64 0, .slice none 0 0].toArray 77))) := bl_alloc (bl_a _) _
  have HX2 : Hid (Bx ((w.alloc (.cells [.int .i64 0, .int .i64 0, .int .i64 0, .slice none 0 0, .int .i64 0, .int .i64 0, .slice none 0 0].toArray 77)).alloc (.cells [.int .i64 1, .int .i64 i, .int .i64 0, .slice none 0 0, .int .i64 0, .int .i64 0, .slice none 0 0].toArray 77)) (w.heap.size + 1) [.int .i64 1, .int .i64 i, .int .i64 0, .slice none 0 0, .int .i64 0, .int .i64 0, .slice none 0 0]) := Bx.new (w.alloc (.cells [.int .i64 0, .int .i64 0, .int .i64 0, .slice none 0 0, .int .i64 0, .int .i64 0, .slice none 0 0].toArray 77)) (w.heap.size + 1) _ 77 (by simp)
  have HR2 : Hid (Bx ((w.alloc (.cells [.int .i64 0, .int .i64 0, .int .i64 0, .slice none 0 0, .int .i64 0, .int .i64 0, .slice none 0 0].toArray 77)).alloc (.cells [.int .i64 1, .int .i64 i, .int .i64 0, .slice none 0 0, .int .i64 0, .int .i64 0, .slice none 0 0].toArray 77)) w.heap.size [.int .i64 0, .int .i64 0, .int .i64 0, .slice none 0 0, .int .i64 0, .int .i64 0, .slice none 0 0]) := (Bx.new w w.heap.size _ 77 rfl).below (bl_a _)
  have e0c : bs[i]? = (bs.drop i)[0]? := by rw [List.getElem?_drop]; rfl
  have hcc : c = 95 := by
    rw [e0c, hd] at hch
    exact Option.some.inj hch
  subst hcc
  clear e0c hch
  have hi1 : i + 1 < len := by
    apply Nat.lt_of_not_le
    intro h
    rw [List.drop_eq_nil_of_le (by rw [hB.1]; exact h)] at h58
    cases h58
  obtain ⟨b1', off1', y, e1, hy, hdy, y0', y1'⟩ := HB.out.byte hi1
  cases e1
  have hy2 : ((w.alloc (.cells [.int .i64 0, .int .i64 0, .int .i64 0, .slice none 0 0, .int .i64 0, .int .i64 0, .slice none 0 0].toArray 77)).alloc (.cells [.int .i64 1, .int .i64 i, .int .i64 0, .slice none 0 0, .int .i64 0, .int .i64 0, .slice none 0 0].toArray 77)).cell? ⟨b0, off0 + (i + 1), none⟩ = some (.int .u8 y) := (HW2.out.cell (p := ⟨b0, off0 + (i + 1), none⟩) (cell_ltC hy)).trans hy
  have hi1z : (i : Int) + 1 < (len : Int) := by omega
  have hi0z : (0 : Int) ≤ (i : Int) + 1 := by omega
  have hy58 : y = 58 := by
    rw [hdy] at h58
    exact Option.some.inj h58
  subst hy58
  have HD2 : Hid (bs.drop i = 95 :: 58 :: bs.drop (i + 2)) := by
    show _ = _
    rw [hd, hdy]
  have EN : Calls Tryz.prog 122 #[.slice (some ⟨b0, off0, none⟩) len cap, .int .i64 ((i : Int) + 2)] ((w.alloc (.cells [.int .i64 0, .int .i64 0, .int .i64 0, .slice none 0 0, .int .i64 0, .int .i64 0, .slice none 0 0].toArray 77)).alloc (.cells [.int .i64 1, .int .i64 i, .int .i64 0, .slice none 0 0, .int .i64 0, .int .i64 0, .slice none 0 0].toArray 77)) fun e w' => e = .returned (.int .i64 ((i + 2 + pieceLen (bs.drop (i + 2)) : Nat) : Int)) ∧ w' = ((w.alloc (.cells [.int .i64 0, .int .i64 0, .int .i64 0, .slice none 0 0, .int .i64 0, .int .i64 0, .slice none 0 0].toArray 77)).alloc (.cells [.int .i64 1, .int .i64 i, .int .i64 0, .slice none 0 0, .int .i64 0, .int .i64 0, .slice none 0 0].toArray 77)) := l2end_any _ len cap bs (i + 2) _ (hB.below HW2.out) (by omega)
  clear hB hd hc hdy hy h58
  go_enter Tryz.func81, Tryz.ntmps81
  go_wp2_with fail
  refine EN.mono ?_
  rintro e w2 ⟨rfl, hw2⟩
  clear EN hc1 hy2
  rw [← hw2] at HW2 HX2 HR2
  clear hw2
  obtain ⟨E, hE⟩ : ∃ E, i + 2 + pieceLen (bs.drop (i + 2)) = E := ⟨_, rfl⟩
  have hEl := piece_len HN.out (show i + 2 ≤ len by omega) hE
  obtain ⟨hEa, hEb⟩ := hEl
  obtain ⟨us, hus⟩ : ∃ us, us = (bs.drop (i + 2)).take (E - (i + 2)) := ⟨_, rfl⟩
  have HTK : Hid (tokOf (bs.drop i) = (blankOf us).map fun n : Nat => (⟨0, 95 :: 58 :: us, ⟨1, [], (n : Int), 0⟩⟩ : PT)) := by
    have e1 : E - (i + 2) = pieceLen (bs.drop (i + 2)) := by omega
    show _ = _
    rw [HD2.out, hus, e1]
    exact tok_blank _
  rw [hE]
  clear hE
  have hE2c : E ≤ cap := by omega
  have HUL : Hid (us.length = E - (i + 2)) := by
    show _ = _
    rw [hus, List.length_take, List.length_drop]
    have := HN.out
    omega
  have HPC : Hid (∀ A : Option Addr, (A = some ⟨b0, off0 + (i + 2), none⟩ ∨ (E = i + 2 ∧ A = some ⟨b0, off0, none⟩)) → Bs w2 A (E - (i + 2)) us) := by
    intro A hA
    rw [hus]
    exact (piece_of HB.out hEa hEb hA).below HW2.out
  clear hus
  go_wp2_with (refine list_slice rfl (.tmp 152) (.tmp 154) (.tmp 155) rfl b0 off0 len cap (i + 2) E rfl rfl rfl hEa hE2c ?_; intro A hA; have NU := l2number_any A (E - (i + 2)) (cap - (i + 2)) us w2 (HPC.out A hA))
  refine NU.mono ?_
  rintro e w3 ⟨hor, hb3⟩
  clear NU
  have HW3 : Hid (Below w.heap.size w w3) := HW2.out.trans (hb3.mono HW2.out.size)
  have HX3 : Hid (Bx w3 (w.heap.size + 1) [.int .i64 1, .int .i64 i, .int .i64 0, .slice none 0 0, .int .i64 0, .int .i64 0, .slice none 0 0]) := HX2.out.below hb3
  have HR3 : Hid (Bx w3 w.heap.size [.int .i64 0, .int .i64 0, .int .i64 0, .slice none 0 0, .int .i64 0, .int .i64 0, .slice none 0 0]) := HR2.out.below hb3
  clear HW2 HX2 HR2 hb3 HPC
  rcases hor with ⟨n, s, hno, rfl⟩ | ⟨hno, rfl⟩
  · have hbn := blank_num.2 n s hno
    have hnk := numOk_bounds (numOf_some.1 hno).1
    clear hno
    have hw3l : w.heap.size + 1 < w3.heap.size := HX3.out.lt
    obtain ⟨p0, p1, p2, p3, p4, p5, p6⟩ := bx7 HX3.out
    obtain ⟨r0, r1, r2, r3, r4, r5, r6⟩ := bx7f HX3.out
    have HX5 : Hid (Bx (((((w3.setCell ⟨w.heap.size + 1, 2, none⟩ (.int .i64 1)).setCell ⟨w.heap.size + 1, 3, none⟩ (.slice none 0 0)).setCell ⟨w.heap.size + 1, 4, none⟩ (.int .i64 n)).setCell ⟨w.heap.size + 1, 5, none⟩ (.int .i64 0)).alloc (.cells #[.int .i64 3, .slice none 0 0, .int .i64 n, .int .i64 s] 24)) (w.heap.size + 1) [.int .i64 1, .int .i64 i, .int .i64 1, .slice none 0 0, .int .i64 n, .int .i64 0, .slice none 0 0]) := ((((HX3.out.set 2 (.int .i64 1) (by simp)).set 3 (.slice none 0 0) (by simp)).set 4 (.int .i64 n) (by simp)).set 5 (.int .i64 0) (by simp)).below (bl_a _)
    have HR5 : Hid (Bx (((((w3.setCell ⟨w.heap.size + 1, 2, none⟩ (.int .i64 1)).setCell ⟨w.heap.size + 1, 3, none⟩ (.slice none 0 0)).setCell ⟨w.heap.size + 1, 4, none⟩ (.int .i64 n)).setCell ⟨w.heap.size + 1, 5, none⟩ (.int .i64 0)).alloc (.cells #[.int .i64 3, .slice none 0 0, .int .i64 n, .int .i64 s] 24)) w.heap.size [.int .i64 0, .int .i64 0, .int .i64 0, .slice none 0 0, .int .i64 0, .int .i64 0, .slice none 0 0]) := (((((HR3.out.other 2 (.int .i64 1) (c := w.heap.size + 1) (by omega)).other 3 (.slice none 0 0) (c := w.heap.size + 1) (by omega)).other 4 (.int .i64 n) (c := w.heap.size + 1) (by omega)).other 5 (.int .i64 0) (c := w.heap.size + 1) (by omega))).below (bl_a _)
    have HW5 : Hid (Below w.heap.size w (((((w3.setCell ⟨w.heap.size + 1, 2, none⟩ (.int .i64 1)).setCell ⟨w.heap.size + 1, 3, none⟩ (.slice none 0 0)).setCell ⟨w.heap.size + 1, 4, none⟩ (.int .i64 n)).setCell ⟨w.heap.size + 1, 5, none⟩ (.int .i64 0)).alloc (.cells #[.int .i64 3, .slice none 0 0, .int .i64 n, .int .i64 s] 24))) := bl_trans ((((HW3.out.setCell (p := ⟨w.heap.size + 1, 2, none⟩) (by show w.heap.size ≤ w.heap.size + 1; omega) (.int .i64 1)).setCell (p := ⟨w.heap.size + 1, 3, none⟩) (by show w.heap.size ≤ w.heap.size + 1; omega) (.slice none 0 0)).setCell (p := ⟨w.heap.size + 1, 4, none⟩) (by show w.heap.size ≤ w.heap.size + 1; omega) (.int .i64 n)).setCell (p := ⟨w.heap.size + 1, 5, none⟩) (by show w.heap.size ≤ w.heap.size + 1; omega) (.int .i64 0)) (bl_a _)
    have HB5 : Hid (Bx (((((w3.setCell ⟨w.heap.size + 1, 2, none⟩ (.int .i64 1)).setCell ⟨w.heap.size + 1, 3, none⟩ (.slice none 0 0)).setCell ⟨w.heap.size + 1, 4, none⟩ (.int .i64 n)).setCell ⟨w.heap.size + 1, 5, none⟩ (.int .i64 0)).alloc (.cells #[.int .i64 3, .slice none 0 0, .int .i64 n, .int .i64 s] 24)) w3.heap.size [.int .i64 3, .slice none 0 0, .int .i64 n, .int .i64 s]) := Bx.new _ _ _ 24 (by simp)
    go_upto_region 26 with fail
    obtain ⟨w5, hw5⟩ : ∃ w5, w5 = (((((w3.setCell ⟨w.heap.size + 1, 2, none⟩ (.int .i64 1)).setCell ⟨w.heap.size + 1, 3, none⟩ (.slice none 0 0)).setCell ⟨w.heap.size + 1, 4, none⟩ (.int .i64 n)).setCell ⟨w.heap.size + 1, 5, none⟩ (.int .i64 0)).alloc (.cells #[.int .i64 3, .slice none 0 0, .int .i64 n, .int .i64 s] 24)) := ⟨_, rfl⟩
    rw [← hw5] at HX5 HR5 HW5 HB5 ⊢
    clear hw5 p0 p1 p2 p3 p4 p5 p6 r0 r1 r2 r3 r4 r5 r6
    have b3' := HB5.out.c 3 _ rfl
    obtain ⟨z0, z1, z2, z3, z4, z5, z6⟩ := bx7 HX5.out
    by_cases hs0 : s = 0
    · have hs0z : ¬ (0 : Int) < s := by omega
      have TOK : Hid (Calls Tryz.prog 8 #[.agg #[.int .i64 1, .slice none 0 0, .int .i64 n, .int .i64 0]] w5 fun e w' => e = .returned (.bool (decide (0 ≤ n ∧ n ≤ 999999))) ∧ ∃ o1, w' = w5.alloc o1) := by
        have h := specTermOk_any 1 n 0 none 0 0 [] w5 ⟨rfl, by omega, by simp, .inl rfl⟩ (by omega) (by omega)
        rwa [show termOk 1 [] n 0 = decide (0 ≤ n ∧ n ≤ 999999) by simp [termOk]] at h
      go_wp2_with fail
      refine TOK.out.mono ?_
      rintro e wc ⟨rfl, o, hwc⟩
      have HXc : Hid (Bx wc (w.heap.size + 1) [.int .i64 1, .int .i64 i, .int .i64 1, .slice none 0 0, .int .i64 n, .int .i64 0, .slice none 0 0]) := by rw [hwc]; exact HX5.out.below (bl_a _)
      have HRc : Hid (Bx wc w.heap.size [.int .i64 0, .int .i64 0, .int .i64 0, .slice none 0 0, .int .i64 0, .int .i64 0, .slice none 0 0]) := by rw [hwc]; exact HR5.out.below (bl_a _)
      have HWc : Hid (Below w.heap.size w wc) := by rw [hwc]; exact bl_trans HW5.out (bl_a _)
      clear z0 z1 z2 z3 z4 z5 z6 hwc TOK HX5 HR5 HW5
      obtain ⟨z0, z1, z2, z3, z4, z5, z6⟩ := bx7 HXc.out
      obtain ⟨y0, y1, y2, y3, y4, y5, y6⟩ := bx7 HRc.out
      obtain ⟨e0, e1, e2, e3, e4, e5, e6⟩ := bx7f HRc.out
      by_cases hn0 : 0 ≤ n ∧ n ≤ 999999
      · have HTT : Hid (∃ t, tokOf (bs.drop i) = some t ∧ (⟨1, i, ⟨1, none, 0, 0, n, 0⟩, [], none, 0, 0, []⟩ : MT).is i t ∧ (E : Int) = ((i + t.raw.length : Nat) : Int)) := by
          refine ⟨⟨0, 95 :: 58 :: us, ⟨1, [], n, 0⟩⟩, ?_, ⟨rfl, rfl, fun _ => rfl, rfl⟩, ?_⟩
          · rw [HTK.out, hbn.1 ⟨hs0, hn0⟩]
            simp
            omega
          · have := HUL.out
            show (E : Int) = ((i + (95 :: 58 :: us).length : Nat) : Int)
            rw [List.length_cons, List.length_cons, this]
            omega
        have hnd : decide (0 ≤ n ∧ n ≤ 999999) = true := decide_eq_true hn0
        rw [hnd]
        clear hnd hbn HTK hn0 hs0
        go_wp2_with fail
        have hF := fin7 (m := ⟨1, i, ⟨1, none, 0, 0, n, 0⟩, [], none, 0, 0, []⟩) (rb := w.heap.size) (Nat.le_refl _) HRc.out ⟨Bs0.nil _ _, Bs0.nil _ _, blank_fits _ (by omega)⟩ HWc.out
        refine bodyPost_ret (v := .tuple #[.agg #[.int .i64 1, .int .i64 i, .int .i64 1, .slice none 0 0, .int .i64 n, .int .i64 0, .slice none 0 0], .int .i64 E]) (by simp [results, Tryz.results81, go_sem, *]) rfl ⟨⟨⟨1, i, ⟨1, none, 0, 0, n, 0⟩, [], none, 0, 0, []⟩, _, rfl, hF.1, .inl HTT.out⟩, hF.2⟩
      · have HNO : Hid (tokOf (bs.drop i) = none) := by
          show _ = _
          rw [HTK.out, hbn.2 (fun h => hn0 h.2)]
          rfl
        have hnd : decide (0 ≤ n ∧ n ≤ 999999) = false := decide_eq_false hn0
        rw [hnd]
        clear hnd hbn HTK hn0 hs0
        go_wp2_with fail
        have hF := fin7 (m := ⟨1, i, ⟨1, none, 0, 0, n, 0⟩, [], none, 0, 0, []⟩) (rb := w.heap.size) (Nat.le_refl _) HRc.out ⟨Bs0.nil _ _, Bs0.nil _ _, blank_fits _ (by omega)⟩ HWc.out
        refine bodyPost_ret (v := .tuple #[.agg #[.int .i64 1, .int .i64 i, .int .i64 1, .slice none 0 0, .int .i64 n, .int .i64 0, .slice none 0 0], .int .i64 (-1)]) (by simp [results, Tryz.results81, go_sem, *]) rfl ⟨⟨⟨1, i, ⟨1, none, 0, 0, n, 0⟩, [], none, 0, 0, []⟩, _, rfl, hF.1, .inr ⟨HNO.out, rfl⟩⟩, hF.2⟩
    · have hs0z : (0 : Int) < s := by omega
      have HNO : Hid (tokOf (bs.drop i) = none) := by
        show _ = _
        rw [HTK.out, hbn.2 (fun h => hs0 h.1)]
        rfl
      clear hbn HTK hs0
      obtain ⟨y0, y1, y2, y3, y4, y5, y6⟩ := bx7 HR5.out
      obtain ⟨e0, e1, e2, e3, e4, e5, e6⟩ := bx7f HR5.out
      go_wp2_with fail
      have hF := fin7 (m := ⟨1, i, ⟨1, none, 0, 0, n, 0⟩, [], none, 0, 0, []⟩) (rb := w.heap.size) (Nat.le_refl _) HR5.out ⟨Bs0.nil _ _, Bs0.nil _ _, blank_fits _ (by omega)⟩ HW5.out
      refine bodyPost_ret (v := .tuple #[.agg #[.int .i64 1, .int .i64 i, .int .i64 1, .slice none 0 0, .int .i64 n, .int .i64 0, .slice none 0 0], .int .i64 (-1)]) (by simp [results, Tryz.results81, go_sem, *]) rfl ⟨⟨⟨1, i, ⟨1, none, 0, 0, n, 0⟩, [], none, 0, 0, []⟩, _, rfl, hF.1, .inr ⟨HNO.out, rfl⟩⟩, hF.2⟩
  · have HNO : Hid (tokOf (bs.drop i) = none) := by
      show _ = _
      rw [HTK.out, blank_num.1 hno]
      rfl
    clear hno HTK
    have hw3l : w.heap.size + 1 < w3.heap.size := HX3.out.lt
    obtain ⟨p0, p1, p2, p3, p4, p5, p6⟩ := bx7 HX3.out
    obtain ⟨r0, r1, r2, r3, r4, r5, r6⟩ := bx7f HX3.out
    have HX5 : Hid (Bx (((((w3.setCell ⟨w.heap.size + 1, 2, none⟩ (.int .i64 1)).setCell ⟨w.heap.size + 1, 3, none⟩ (.slice none 0 0)).setCell ⟨w.heap.size + 1, 4, none⟩ (.int .i64 0)).setCell ⟨w.heap.size + 1, 5, none⟩ (.int .i64 0)).alloc (.cells #[.int .i64 0, .slice none 0 0, .int .i64 0, .int .i64 0] 24)) (w.heap.size + 1) [.int .i64 1, .int .i64 i, .int .i64 1, .slice none 0 0, .int .i64 0, .int .i64 0, .slice none 0 0]) := ((((HX3.out.set 2 (.int .i64 1) (by simp)).set 3 (.slice none 0 0) (by simp)).set 4 (.int .i64 0) (by simp)).set 5 (.int .i64 0) (by simp)).below (bl_a _)
    have HR5 : Hid (Bx (((((w3.setCell ⟨w.heap.size + 1, 2, none⟩ (.int .i64 1)).setCell ⟨w.heap.size + 1, 3, none⟩ (.slice none 0 0)).setCell ⟨w.heap.size + 1, 4, none⟩ (.int .i64 0)).setCell ⟨w.heap.size + 1, 5, none⟩ (.int .i64 0)).alloc (.cells #[.int .i64 0, .slice none 0 0, .int .i64 0, .int .i64 0] 24)) w.heap.size [.int .i64 0, .int .i64 0, .int .i64 0, .slice none 0 0, .int .i64 0, .int .i64 0, .slice none 0 0]) := (((((HR3.out.other 2 (.int .i64 1) (c := w.heap.size + 1) (by omega)).other 3 (.slice none 0 0) (c := w.heap.size + 1) (by omega)).other 4 (.int .i64 0) (c := w.heap.size + 1) (by omega)).other 5 (.int .i64 0) (c := w.heap.size + 1) (by omega))).below (bl_a _)
    have HW5 : Hid (Below w.heap.size w (((((w3.setCell ⟨w.heap.size + 1, 2, none⟩ (.int .i64 1)).setCell ⟨w.heap.size + 1, 3, none⟩ (.slice none 0 0)).setCell ⟨w.heap.size + 1, 4, none⟩ (.int .i64 0)).setCell ⟨w.heap.size + 1, 5, none⟩ (.int .i64 0)).alloc (.cells #[.int .i64 0, .slice none 0 0, .int .i64 0, .int .i64 0] 24))) := bl_trans ((((HW3.out.setCell (p := ⟨w.heap.size + 1, 2, none⟩) (by show w.heap.size ≤ w.heap.size + 1; omega) (.int .i64 1)).setCell (p := ⟨w.heap.size + 1, 3, none⟩) (by show w.heap.size ≤ w.heap.size + 1; omega) (.slice none 0 0)).setCell (p := ⟨w.heap.size + 1, 4, none⟩) (by show w.heap.size ≤ w.heap.size + 1; omega) (.int .i64 0)).setCell (p := ⟨w.heap.size + 1, 5, none⟩) (by show w.heap.size ≤ w.heap.size + 1; omega) (.int .i64 0)) (bl_a _)
    have HB5 : Hid (Bx (((((w3.setCell ⟨w.heap.size + 1, 2, none⟩ (.int .i64 1)).setCell ⟨w.heap.size + 1, 3, none⟩ (.slice none 0 0)).setCell ⟨w.heap.size + 1, 4, none⟩ (.int .i64 0)).setCell ⟨w.heap.size + 1, 5, none⟩ (.int .i64 0)).alloc (.cells #[.int .i64 0, .slice none 0 0, .int .i64 0, .int .i64 0] 24)) w3.heap.size [.int .i64 0, .slice none 0 0, .int .i64 0, .int .i64 0]) := Bx.new _ _ _ 24 (by simp)
    go_upto_region 26 with fail
    obtain ⟨w5, hw5⟩ : ∃ w5, w5 = (((((w3.setCell ⟨w.heap.size + 1, 2, none⟩ (.int .i64 1)).setCell ⟨w.heap.size + 1, 3, none⟩ (.slice none 0 0)).setCell ⟨w.heap.size + 1, 4, none⟩ (.int .i64 0)).setCell ⟨w.heap.size + 1, 5, none⟩ (.int .i64 0)).alloc (.cells #[.int .i64 0, .slice none 0 0, .int .i64 0, .int .i64 0] 24)) := ⟨_, rfl⟩
    rw [← hw5] at HX5 HR5 HW5 HB5 ⊢
    clear hw5 p0 p1 p2 p3 p4 p5 p6 r0 r1 r2 r3 r4 r5 r6
    have b3' := HB5.out.c 3 _ rfl
    obtain ⟨z0, z1, z2, z3, z4, z5, z6⟩ := bx7 HX5.out
    obtain ⟨y0, y1, y2, y3, y4, y5, y6⟩ := bx7 HR5.out
    obtain ⟨e0, e1, e2, e3, e4, e5, e6⟩ := bx7f HR5.out
    go_wp2_with fail
    have hF := fin7 (m := ⟨1, i, ⟨1, none, 0, 0, 0, 0⟩, [], none, 0, 0, []⟩) (rb := w.heap.size) (Nat.le_refl _) HR5.out ⟨Bs0.nil _ _, Bs0.nil _ _, fits0 _ _ _ _⟩ HW5.out
    refine bodyPost_ret (v := .tuple #[.agg #[.int .i64 1, .int .i64 i, .int .i64 1, .slice none 0 0, .int .i64 0, .int .i64 0, .slice none 0 0], .int .i64 (-1)]) (by simp [results, Tryz.results81, go_sem, *]) rfl ⟨⟨⟨1, i, ⟨1, none, 0, 0, 0, 0⟩, [], none, 0, 0, []⟩, _, rfl, hF.1, .inr ⟨HNO.out, rfl⟩⟩, hF.2⟩
end Go.Proofs.YtoclingolfdfeaaGreatDoor

/- LxJ5 -/
namespace Go.Proofs.YtoclingolfdfeaaGreatDoor
open Go.RowKit Go.Deep
set_option maxRecDepth 100000

set_option maxHeartbeats 16000000 in
theorem l2one_var (b0 off0 len cap : Nat) (bs : List Int) (i : Nat) (w : World) (hB : Bs w (some ⟨b0, off0, none⟩) len bs) (hl3 : len ≤ 100000) (hcap : len ≤ cap) (hi : i < len) (hch : bs[i]? = some 63) :
    Calls Tryz.prog 81 #[.slice (some ⟨b0, off0, none⟩) len cap, .int .i64 i] w (TokA (tokOf (bs.drop i)) i w) := by
  have HB : Hid (Bs w (some ⟨b0, off0, none⟩) len bs) := hB
  have HN : Hid (bs.length = len) := hB.1
  obtain ⟨b0', off0', c, e0, hc, hd, c0, c1⟩ := hB.byte hi
  cases e0
  have HD : Hid (bs.drop i = c :: bs.drop (i + 1)) := hd
  have hiz : (i : Int) < (len : Int) := by omega
  have hic : i ≤ cap := by omega
  have hicn : ¬ cap = i := by omega
  have hc1 : (w.alloc (.cells [.int .i64 0, .int .i64 0, .int .i64 0, .slice none 0 0, .int .i64 0, .int .i64 0, .slice none 0 0].toArray 77)).cell? ⟨b0, off0 + i, none⟩ = some (.int .u8 c) := ((bl_a (w := w) _).cell (p := ⟨b0, off0 + i, none⟩) (cell_ltC hc)).trans hc
  have HW2 : Hid (Below w.heap.size w ((w.alloc (.cells [.int .i64 0, .int .i64 0, .int .i64 0, .slice none 0 0, .int .i64 0, .int .i64 0, .slice none 0 0].toArray 77)).alloc (.cells [.int .i64 1, .int .i64 i, .int .i64 0, .slice none 0 0, .int .i64 0, .int .i64 0, .slice none 0 0].toArray 77))) := bl_alloc (bl_a _) _
  have HX2 : Hid (Bx ((w.alloc (.cells [.int .i64 0, .int .i64 0, .int .i64 0, .slice none 0 0, .int .i64 0, .int .i64 0, .slice none 0 0].toArray 77)).alloc (.cells [.int .i64 1, .int .i64 i, .int .i64 0, .slice none 0 0, .int .i64 0, .int .i64 0, .slice none 0 0].toArray 77)) (w.heap.size + 1) [.int .i64 1, .int .i64 i, .int .i64 0, .slice none 0 0, .int .i64 0, .int .i64 0, .slice none 0 0]) := Bx.new (w.alloc (.cells [.int .i64 0, .int .i64 0, .int .i64 0, .slice none 0 0, .int .i64 0, .int .i64 0, .slice none 0 0].toArray 77)) (w.heap.size + 1) _ 77 (by simp)
  have HR2 : Hid (Bx ((w.alloc (.cells [.int .i64 0, .int .i64 0, .int .i64 0, .slice none 0 0, .int .i64 0, .int .i64 0, .slice none 0 0].toArray 77)).alloc (.cells [.int .i64 1, .int .i64 i, .int .i64 0, .slice none 0 0, .int .i64 0, .int .i64 0, .slice none 0 0].toArray 77)) w.heap.size [.int .i64 0, .int .i64 0, .int .i64 0, .slice none 0 0, .int .i64 0, .int .i64 0, .slice none 0 0]) := (Bx.new w w.heap.size _ 77 rfl).below (bl_a _)
  have e0c : bs[i]? = (bs.drop i)[0]? := by rw [List.getElem?_drop]; rfl
  have hcc : c = 63 := by
    rw [e0c, hd] at hch
    exact Option.some.inj hch
  subst hcc
  clear e0c hch
  have EN : Calls Tryz.prog 122 #[.slice (some ⟨b0, off0, none⟩) len cap, .int .i64 ((i : Int) + 1)] ((w.alloc (.cells [.int .i64 0, .int .i64 0, .int .i64 0, .slice none 0 0, .int .i64 0, .int .i64 0, .slice none 0 0].toArray 77)).alloc (.cells [.int .i64 1, .int .i64 i, .int .i64 0, .slice none 0 0, .int .i64 0, .int .i64 0, .slice none 0 0].toArray 77)) fun e w' => e = .returned (.int .i64 ((i + 1 + pieceLen (bs.drop (i + 1)) : Nat) : Int)) ∧ w' = ((w.alloc (.cells [.int .i64 0, .int .i64 0, .int .i64 0, .slice none 0 0, .int .i64 0, .int .i64 0, .slice none 0 0].toArray 77)).alloc (.cells [.int .i64 1, .int .i64 i, .int .i64 0, .slice none 0 0, .int .i64 0, .int .i64 0, .slice none 0 0].toArray 77)) := l2end_any _ len cap bs (i + 1) _ (hB.below HW2.out) (by omega)
  clear hB hd hc
  go_enter Tryz.func81, Tryz.ntmps81
  go_wp2_with fail
  refine EN.mono ?_
  rintro e w2 ⟨rfl, hw2⟩
  clear EN hc1
  rw [← hw2] at HW2 HX2 HR2
  clear hw2
  obtain ⟨E, hE⟩ : ∃ E, i + 1 + pieceLen (bs.drop (i + 1)) = E := ⟨_, rfl⟩
  have hEl := piece_len HN.out (show i + 1 ≤ len by omega) hE
  obtain ⟨hEa, hEb⟩ := hEl
  have HTK : Hid (tokOf (bs.drop i) = if nameOk ((bs.drop (i + 1)).take (E - (i + 1))) = true then some ⟨1, 63 :: (bs.drop (i + 1)).take (E - (i + 1)), td0⟩ else none) := by
    have e1 : E - (i + 1) = pieceLen (bs.drop (i + 1)) := by omega
    show _ = _
    rw [HD.out, e1]
    exact tok_var _
  rw [hE]
  clear hE
  have hE2c : E ≤ cap := by omega
  have HUL : Hid (((bs.drop (i + 1)).take (E - (i + 1))).length = E - (i + 1)) := by
    show _ = _
    rw [List.length_take, List.length_drop]
    have := HN.out
    omega
  obtain ⟨us, hus⟩ : ∃ us, us = (bs.drop (i + 1)).take (E - (i + 1)) := ⟨_, rfl⟩
  have HPC : Hid (∀ A : Option Addr, (A = some ⟨b0, off0 + (i + 1), none⟩ ∨ (E = i + 1 ∧ A = some ⟨b0, off0, none⟩)) → ∀ W, Below w.heap.size w W → Src Tryz.prog 1 22 (.slice A (E - (i + 1)) (cap - (i + 1))) (E - (i + 1)) (us.map (Value.int .u8)) W) := by
    intro A hA W hW
    rw [hus]
    exact src_bs ((piece_of HB.out hEa hEb hA).below hW)
  have HYU : Hid (Byt ([] ++ us)) := by
    show Byt _
    rw [List.nil_append, hus]
    exact ((byt_raw HB.out).dropB _).takeB _
  rw [← hus] at HTK HUL
  clear hus
  have q0 := HX2.out.c 0 _ rfl
  have qf0 := HX2.out.f 0 (by simp)
  have HXk : Hid (Bx (w2.setCell ⟨w.heap.size + 1, 0, none⟩ (.int .i64 4)) (w.heap.size + 1) [.int .i64 4, .int .i64 i, .int .i64 0, .slice none 0 0, .int .i64 0, .int .i64 0, .slice none 0 0]) := HX2.out.set 0 (.int .i64 4) (by simp)
  have HRk : Hid (Bx (w2.setCell ⟨w.heap.size + 1, 0, none⟩ (.int .i64 4)) w.heap.size [.int .i64 0, .int .i64 0, .int .i64 0, .slice none 0 0, .int .i64 0, .int .i64 0, .slice none 0 0]) := HR2.out.other 0 (.int .i64 4) (c := w.heap.size + 1) (by omega)
  have HWk : Hid (Below w.heap.size w (w2.setCell ⟨w.heap.size + 1, 0, none⟩ (.int .i64 4))) := HW2.out.setCell (p := ⟨w.heap.size + 1, 0, none⟩) (by show w.heap.size ≤ w.heap.size + 1; omega) (.int .i64 4)
  go_upto_region 32 with fail
  clear HX2 HR2 HW2 q0 qf0
  generalize w2.setCell ⟨w.heap.size + 1, 0, none⟩ (.int .i64 4) = wk at *
  clear w2
  obtain ⟨w2, hw2⟩ : ∃ w2, w2 = wk := ⟨_, rfl⟩
  rw [← hw2] at HXk HRk HWk ⊢
  clear hw2
  have HTX : Hid (Tz (w2.alloc (.cells #[] 5)) w2.heap.size (some ⟨w2.heap.size, 0, none⟩) 0 0 []) := Tz.new0 w2
  have HBX : Hid (Below w.heap.size w (w2.alloc (.cells #[] 5))) := bl_trans HWk.out (bl_a _)
  have hBX : w2.heap.size ≤ (w2.alloc (.cells #[] 5)).heap.size := by simp
  have hw2l : w.heap.size + 1 < w2.heap.size := HXk.out.lt
  have HX3 : Hid (Bx (w2.alloc (.cells #[] 5)) (w.heap.size + 1) [.int .i64 4, .int .i64 i, .int .i64 0, .slice none 0 0, .int .i64 0, .int .i64 0, .slice none 0 0]) := HXk.out.below (bl_a _)
  have HR3 : Hid (Bx (w2.alloc (.cells #[] 5)) w.heap.size [.int .i64 0, .int .i64 0, .int .i64 0, .slice none 0 0, .int .i64 0, .int .i64 0, .slice none 0 0]) := HRk.out.below (bl_a _)
  clear HXk HRk HWk
  go_upto_region 33 with (first
    | (refine list_slice rfl (.tmp 189) (.tmp 191) (.tmp 192) rfl b0 off0 len cap (i + 1) E rfl rfl rfl hEa hE2c ?_; intro A hA; have HSX := HPC.out A hA _ HBX.out; have HSX' : Hid (Src Tryz.prog 1 22 (.slice A (E - (i + 1)) (cap - (i + 1))) (E - (i + 1)) (us.map (Value.int .u8)) (w2.alloc (.cells #[] 5))) := HSX; clear HSX)
    | (refine list_app8z rfl (.tmp 188) (.tmp 193) 22 rfl w2.heap.size 0 0 (some ⟨w2.heap.size, 0, none⟩) [] rfl HTX (.slice A (E - (i + 1)) (cap - (i + 1))) (E - (i + 1)) us rfl (fun h => by cases h) HSX' HYU (E - (i + 1)) (Nat.zero_add _) us (List.nil_append _) (by omega) hBX ?_; intro g4 c4 w4 HT4 HD4; have HX4 : Hid (Bx w4 (w.heap.size + 1) [.int .i64 4, .int .i64 i, .int .i64 0, .slice none 0 0, .int .i64 0, .int .i64 0, .slice none 0 0]) := HX3.out.belowB HD4.out (by omega); have HR4 : Hid (Bx w4 w.heap.size [.int .i64 0, .int .i64 0, .int .i64 0, .slice none 0 0, .int .i64 0, .int .i64 0, .slice none 0 0]) := HR3.out.belowB HD4.out (by omega); have HW4 : Hid (Below w.heap.size w w4) := HBX.out.trans (HD4.out.mono (by omega)); have hw4l : w2.heap.size ≤ w4.heap.size := Nat.le_trans hBX HD4.out.size; obtain ⟨z0, z1, z2, z3, z4, z5, z6⟩ := bx7 HX4.out; obtain ⟨y0, y1, y2, y3, y4, y5, y6⟩ := bx7 HR4.out; obtain ⟨e0, e1, e2, e3, e4, e5, e6⟩ := bx7f HR4.out; obtain ⟨f0, f1, f2, f3, f4, f5, f6⟩ := bx7f HX4.out))
  have HX5 : Hid (Bx (w4.setCell ⟨w.heap.size + 1, 6, none⟩ (.slice (some ⟨g4, 0, none⟩) (E - (i + 1)) c4)) (w.heap.size + 1) [.int .i64 4, .int .i64 i, .int .i64 0, .slice none 0 0, .int .i64 0, .int .i64 0, .slice (some ⟨g4, 0, none⟩) (E - (i + 1)) c4]) := HX4.out.set 6 (.slice (some ⟨g4, 0, none⟩) (E - (i + 1)) c4) (by simp)
  have HR5 : Hid (Bx (w4.setCell ⟨w.heap.size + 1, 6, none⟩ (.slice (some ⟨g4, 0, none⟩) (E - (i + 1)) c4)) w.heap.size [.int .i64 0, .int .i64 0, .int .i64 0, .slice none 0 0, .int .i64 0, .int .i64 0, .slice none 0 0]) := HR4.out.other 6 (.slice (some ⟨g4, 0, none⟩) (E - (i + 1)) c4) (c := w.heap.size + 1) (by omega)
  have HW5 : Hid (Below w.heap.size w (w4.setCell ⟨w.heap.size + 1, 6, none⟩ (.slice (some ⟨g4, 0, none⟩) (E - (i + 1)) c4))) := HW4.out.setCell (p := ⟨w.heap.size + 1, 6, none⟩) (by show w.heap.size ≤ w.heap.size + 1; omega) (.slice (some ⟨g4, 0, none⟩) (E - (i + 1)) c4)
  have HT5 : Hid (Tz (w4.setCell ⟨w.heap.size + 1, 6, none⟩ (.slice (some ⟨g4, 0, none⟩) (E - (i + 1)) c4)) w2.heap.size (some ⟨g4, 0, none⟩) (E - (i + 1)) c4 us) := HT4.out.past ((Past.refl (w.heap.size + 1) w4).set 6 _) (by omega)
  generalize hw5 : (w4.setCell ⟨w.heap.size + 1, 6, none⟩ (.slice (some ⟨g4, 0, none⟩) (E - (i + 1)) c4)) = w5 at *
  clear HX4 HR4 HW4 HT4 HD4 z0 z1 z2 z3 z4 z5 z6 y0 y1 y2 y3 y4 y5 y6 e0 e1 e2 e3 e4 e5 e6 f0 f1 f2 f3 f4 f5 f6 hw5
  have TOK : Hid (Calls Tryz.prog 8 #[.agg #[.int .i64 0, .slice (some ⟨g4, 0, none⟩) (E - (i + 1)) c4, .int .i64 0, .int .i64 0]] w5 fun e w' => e = .returned (.bool (nameOk us)) ∧ ∃ o1, w' = w5.alloc o1) := by
    have h := specTermOk_any 0 0 0 (some ⟨g4, 0, none⟩) (E - (i + 1)) c4 us w5 HT5.out.1 (by omega) (by omega)
    rwa [show termOk 0 us 0 0 = nameOk us by simp [termOk]] at h
  obtain ⟨z0, z1, z2, z3, z4, z5, z6⟩ := bx7 HX5.out
  go_wp2_with fail
  refine TOK.out.mono ?_
  rintro e wc ⟨rfl, o, hwc⟩
  have HXc : Hid (Bx wc (w.heap.size + 1) [.int .i64 4, .int .i64 i, .int .i64 0, .slice none 0 0, .int .i64 0, .int .i64 0, .slice (some ⟨g4, 0, none⟩) (E - (i + 1)) c4]) := by rw [hwc]; exact HX5.out.below (bl_a _)
  have HRc : Hid (Bx wc w.heap.size [.int .i64 0, .int .i64 0, .int .i64 0, .slice none 0 0, .int .i64 0, .int .i64 0, .slice none 0 0]) := by rw [hwc]; exact HR5.out.below (bl_a _)
  have HWc : Hid (Below w.heap.size w wc) := by rw [hwc]; exact bl_trans HW5.out (bl_a _)
  have HTc : Hid (Tz wc w2.heap.size (some ⟨g4, 0, none⟩) (E - (i + 1)) c4 us) := by rw [hwc]; exact HT5.out.below (bl_a _)
  clear z0 z1 z2 z3 z4 z5 z6 hwc TOK HX5 HR5 HW5 HT5
  obtain ⟨z0, z1, z2, z3, z4, z5, z6⟩ := bx7 HXc.out
  obtain ⟨y0, y1, y2, y3, y4, y5, y6⟩ := bx7 HRc.out
  obtain ⟨e0, e1, e2, e3, e4, e5, e6⟩ := bx7f HRc.out
  cases hq : nameOk us with
  | false =>
    have HNO : Hid (tokOf (bs.drop i) = none) := by
      show _ = _
      rw [HTK.out, hq]
      rfl
    clear hq HTK
    go_wp2_with fail
    have hF := fin7 (m := ⟨4, i, ⟨0, none, 0, 0, 0, 0⟩, [], some ⟨g4, 0, none⟩, E - (i + 1), c4, us⟩) (rb := w.heap.size) (Nat.le_refl _) HRc.out ⟨Bs0.nil _ _, HTc.out.bs0, fits0 _ _ _ _⟩ HWc.out
    refine bodyPost_ret (v := .tuple #[.agg #[.int .i64 4, .int .i64 i, .int .i64 0, .slice none 0 0, .int .i64 0, .int .i64 0, .slice (some ⟨g4, 0, none⟩) (E - (i + 1)) c4], .int .i64 (-1)]) (by simp [results, Tryz.results81, go_sem, *]) rfl ⟨⟨⟨4, i, ⟨0, none, 0, 0, 0, 0⟩, [], some ⟨g4, 0, none⟩, E - (i + 1), c4, us⟩, _, rfl, hF.1, .inr ⟨HNO.out, rfl⟩⟩, hF.2⟩
  | true =>
    have HTT : Hid (∃ t, tokOf (bs.drop i) = some t ∧ (⟨4, i, ⟨0, none, 0, 0, 0, 0⟩, [], some ⟨g4, 0, none⟩, E - (i + 1), c4, us⟩ : MT).is i t ∧ (E : Int) = ((i + t.raw.length : Nat) : Int)) := by
      refine ⟨⟨1, 63 :: us, td0⟩, by rw [HTK.out, hq]; rfl, ⟨rfl, rfl, fun h => (by cases h), rfl⟩, ?_⟩
      have := HUL.out
      show (E : Int) = ((i + (63 :: us).length : Nat) : Int)
      rw [List.length_cons, this]
      omega
    clear hq HTK
    go_wp2_with fail
    have hF := fin7 (m := ⟨4, i, ⟨0, none, 0, 0, 0, 0⟩, [], some ⟨g4, 0, none⟩, E - (i + 1), c4, us⟩) (rb := w.heap.size) (Nat.le_refl _) HRc.out ⟨Bs0.nil _ _, HTc.out.bs0, fits0 _ _ _ _⟩ HWc.out
    refine bodyPost_ret (v := .tuple #[.agg #[.int .i64 4, .int .i64 i, .int .i64 0, .slice none 0 0, .int .i64 0, .int .i64 0, .slice (some ⟨g4, 0, none⟩) (E - (i + 1)) c4], .int .i64 E]) (by simp [results, Tryz.results81, go_sem, *]) rfl ⟨⟨⟨4, i, ⟨0, none, 0, 0, 0, 0⟩, [], some ⟨g4, 0, none⟩, E - (i + 1), c4, us⟩, _, rfl, hF.1, .inl HTT.out⟩, hF.2⟩
end Go.Proofs.YtoclingolfdfeaaGreatDoor

/- LxJ6 -/
namespace Go.Proofs.YtoclingolfdfeaaGreatDoor
open Go.RowKit Go.Deep
set_option maxRecDepth 100000

set_option maxHeartbeats 16000000 in
theorem l2one_sub (b0 off0 len cap : Nat) (bs : List Int) (i : Nat) (w : World) (hB : Bs w (some ⟨b0, off0, none⟩) len bs) (hl3 : len ≤ 100000) (hcap : len ≤ cap) (hi : i < len) (hch : bs[i]? = some 45) (hdg : digitHd (bs.drop (i + 1)) = false) :
    Calls Tryz.prog 81 #[.slice (some ⟨b0, off0, none⟩) len cap, .int .i64 i] w (TokA (tokOf (bs.drop i)) i w) := by
  have HB : Hid (Bs w (some ⟨b0, off0, none⟩) len bs) := hB
  have HN : Hid (bs.length = len) := hB.1
  obtain ⟨b0', off0', c, e0, hc, hd, c0, c1⟩ := hB.byte hi
  cases e0
  have HD : Hid (bs.drop i = c :: bs.drop (i + 1)) := hd
  have hiz : (i : Int) < (len : Int) := by omega
  have hic : i ≤ cap := by omega
  have hicn : ¬ cap = i := by omega
  have hc1 : (w.alloc (.cells [.int .i64 0, .int .i64 0, .int .i64 0, .slice none 0 0, .int .i64 0, .int .i64 0, .slice none 0 0].toArray 77)).cell? ⟨b0, off0 + i, none⟩ = some (.int .u8 c) := ((bl_a (w := w) _).cell (p := ⟨b0, off0 + i, none⟩) (cell_ltC hc)).trans hc
  have HW2 : Hid (Below w.heap.size w ((w.alloc (.cells [.int .i64 0, .int .i64 0, .int .i64 0, .slice none 0 0, .int .i64 0, .int .i64 0, .slice none 0 0].toArray 77)).alloc (.cells [.int .i64 1, .int .i64 i, .int .i64 0, .slice none 0 0, .int .i64 0, .int .i64 0, .slice none 0 0].toArray 77))) := bl_alloc (bl_a _) _
  have HX2 : Hid (Bx ((w.alloc (.cells [.int .i64 0, .int .i64 0, .int .i64 0, .slice none 0 0, .int .i64 0, .int .i64 0, .slice none 0 0].toArray 77)).alloc (.cells [.int .i64 1, .int .i64 i, .int .i64 0, .slice none 0 0, .int .i64 0, .int .i64 0, .slice none 0 0].toArray 77)) (w.heap.size + 1) [.int .i64 1, .int .i64 i, .int .i64 0, .slice none 0 0, .int .i64 0, .int .i64 0, .slice none 0 0]) := Bx.new (w.alloc (.cells [.int .i64 0, .int .i64 0, .int .i64 0, .slice none 0 0, .int .i64 0, .int .i64 0, .slice none 0 0].toArray 77)) (w.heap.size + 1) _ 77 (by simp)
  have HR2 : Hid (Bx ((w.alloc (.cells [.int .i64 0, .int .i64 0, .int .i64 0, .slice none 0 0, .int .i64 0, .int .i64 0, .slice none 0 0].toArray 77)).alloc (.cells [.int .i64 1, .int .i64 i, .int .i64 0, .slice none 0 0, .int .i64 0, .int .i64 0, .slice none 0 0].toArray 77)) w.heap.size [.int .i64 0, .int .i64 0, .int .i64 0, .slice none 0 0, .int .i64 0, .int .i64 0, .slice none 0 0]) := (Bx.new w w.heap.size _ 77 rfl).below (bl_a _)
  have e0c : bs[i]? = (bs.drop i)[0]? := by rw [List.getElem?_drop]; rfl
  have hcc : c = 45 := by
    rw [e0c, hd] at hch
    exact Option.some.inj hch
  subst hcc
  clear e0c hch
  have HEQ : Hid (tokOther (bs.drop i) = tokOf (bs.drop i)) := by
    show _ = _
    rw [hd]
    simp [tokOther, tokOf, great, digit, hdg, signB]
  have CT : Hid (Calls Tryz.prog 125 #[.slice (some ⟨b0, off0, none⟩) len cap, .int .i64 i] ((w.alloc (.cells [.int .i64 0, .int .i64 0, .int .i64 0, .slice none 0 0, .int .i64 0, .int .i64 0, .slice none 0 0].toArray 77)).alloc (.cells [.int .i64 1, .int .i64 i, .int .i64 0, .slice none 0 0, .int .i64 0, .int .i64 0, .slice none 0 0].toArray 77)) (TokA (tokOf (bs.drop i)) i ((w.alloc (.cells [.int .i64 0, .int .i64 0, .int .i64 0, .slice none 0 0, .int .i64 0, .int .i64 0, .slice none 0 0].toArray 77)).alloc (.cells [.int .i64 1, .int .i64 i, .int .i64 0, .slice none 0 0, .int .i64 0, .int .i64 0, .slice none 0 0].toArray 77)))) := by
    have h := l2other_any _ len cap bs i _ (hB.below HW2.out) hl3 hcap hi
    rwa [HEQ.out] at h
  clear hB hd hc
  by_cases hi1 : i + 1 < len
  · obtain ⟨b1', off1', y, e1, hy, hdy, y0', y1'⟩ := HB.out.byte hi1
    cases e1
    have hy2 : ((w.alloc (.cells [.int .i64 0, .int .i64 0, .int .i64 0, .slice none 0 0, .int .i64 0, .int .i64 0, .slice none 0 0].toArray 77)).alloc (.cells [.int .i64 1, .int .i64 i, .int .i64 0, .slice none 0 0, .int .i64 0, .int .i64 0, .slice none 0 0].toArray 77)).cell? ⟨b0, off0 + (i + 1), none⟩ = some (.int .u8 y) := (HW2.out.cell (p := ⟨b0, off0 + (i + 1), none⟩) (cell_ltC hy)).trans hy
    have hi1z : (i : Int) + 1 < (len : Int) := by omega
    have hi0z : (0 : Int) ≤ (i : Int) + 1 := by omega
    have hyd : y < 48 ∨ 57 < y := by
      rw [hdy] at hdg
      simp [digitHd, digit] at hdg
      omega
    clear hdy hy
    rcases hyd with hyd | hyd
    · have hy48 : ¬ 48 ≤ y := by omega
      go_enter Tryz.func81, Tryz.ntmps81
      go_wp2_with fail
      refine CT.out.mono ?_
      rintro e w3 ⟨⟨m, en, rfl, hl, hor⟩, hb3⟩
      have HOR : Hid _ := hor
      have HL : Hid (m.lies w3) := hl
      have HW3 : Hid (Below w.heap.size w w3) := HW2.out.trans (hb3.mono HW2.out.size)
      have HR3 : Hid (Bx w3 w.heap.size [.int .i64 0, .int .i64 0, .int .i64 0, .slice none 0 0, .int .i64 0, .int .i64 0, .slice none 0 0]) := HR2.out.below hb3
      obtain ⟨y0, y1, y2, y3, y4, y5, y6⟩ := bx7 HR3.out
      obtain ⟨e0, e1, e2, e3, e4, e5, e6⟩ := bx7f HR3.out
      simp only [eM]
      clear hl hor hb3 CT
      go_wp2_with fail
      have hF := fin7 (m := m) (rb := w.heap.size) (Nat.le_refl _) HR3.out HL.out HW3.out
      refine bodyPost_ret (v := .tuple #[.agg #[.int .i64 m.kind, .int .i64 m.p, .int .i64 m.t.k, .slice m.t.a m.t.len m.t.cap, .int .i64 m.t.n, .int .i64 m.t.s, .slice m.xa m.xl m.xc], .int .i64 en]) (by simp [results, Tryz.results81, go_sem, *]) rfl ⟨⟨m, en, rfl, hF.1, HOR.out⟩, hF.2⟩
    · have hy48 : 48 ≤ y := by omega
      have hy57 : ¬ y ≤ 57 := by omega
      go_enter Tryz.func81, Tryz.ntmps81
      go_wp2_with fail
      refine CT.out.mono ?_
      rintro e w3 ⟨⟨m, en, rfl, hl, hor⟩, hb3⟩
      have HOR : Hid _ := hor
      have HL : Hid (m.lies w3) := hl
      have HW3 : Hid (Below w.heap.size w w3) := HW2.out.trans (hb3.mono HW2.out.size)
      have HR3 : Hid (Bx w3 w.heap.size [.int .i64 0, .int .i64 0, .int .i64 0, .slice none 0 0, .int .i64 0, .int .i64 0, .slice none 0 0]) := HR2.out.below hb3
      obtain ⟨y0, y1, y2, y3, y4, y5, y6⟩ := bx7 HR3.out
      obtain ⟨e0, e1, e2, e3, e4, e5, e6⟩ := bx7f HR3.out
      simp only [eM]
      clear hl hor hb3 CT
      go_wp2_with fail
      have hF := fin7 (m := m) (rb := w.heap.size) (Nat.le_refl _) HR3.out HL.out HW3.out
      refine bodyPost_ret (v := .tuple #[.agg #[.int .i64 m.kind, .int .i64 m.p, .int .i64 m.t.k, .slice m.t.a m.t.len m.t.cap, .int .i64 m.t.n, .int .i64 m.t.s, .slice m.xa m.xl m.xc], .int .i64 en]) (by simp [results, Tryz.results81, go_sem, *]) rfl ⟨⟨m, en, rfl, hF.1, HOR.out⟩, hF.2⟩
  · have hi1z : ¬ (i : Int) + 1 < (len : Int) := by omega
    go_enter Tryz.func81, Tryz.ntmps81
    go_wp2_with fail
    refine CT.out.mono ?_
    rintro e w3 ⟨⟨m, en, rfl, hl, hor⟩, hb3⟩
    have HOR : Hid _ := hor
    have HL : Hid (m.lies w3) := hl
    have HW3 : Hid (Below w.heap.size w w3) := HW2.out.trans (hb3.mono HW2.out.size)
    have HR3 : Hid (Bx w3 w.heap.size [.int .i64 0, .int .i64 0, .int .i64 0, .slice none 0 0, .int .i64 0, .int .i64 0, .slice none 0 0]) := HR2.out.below hb3
    obtain ⟨y0, y1, y2, y3, y4, y5, y6⟩ := bx7 HR3.out
    obtain ⟨e0, e1, e2, e3, e4, e5, e6⟩ := bx7f HR3.out
    simp only [eM]
    clear hl hor hb3 CT
    go_wp2_with fail
    have hF := fin7 (m := m) (rb := w.heap.size) (Nat.le_refl _) HR3.out HL.out HW3.out
    refine bodyPost_ret (v := .tuple #[.agg #[.int .i64 m.kind, .int .i64 m.p, .int .i64 m.t.k, .slice m.t.a m.t.len m.t.cap, .int .i64 m.t.n, .int .i64 m.t.s, .slice m.xa m.xl m.xc], .int .i64 en]) (by simp [results, Tryz.results81, go_sem, *]) rfl ⟨⟨m, en, rfl, hF.1, HOR.out⟩, hF.2⟩
end Go.Proofs.YtoclingolfdfeaaGreatDoor
