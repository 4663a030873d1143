/- Texts put together: LxJ2 LxJ3 -/
import Derived.Test.YtoclingolfdfeaaGreatDoorMk23
/- LxJ2 -/
namespace Go.Proofs.YtoclingolfdfeaaGreatDoor
open Go.RowKit Go.Deep
set_option maxRecDepth 100000

set_option maxHeartbeats 16000000 in
theorem l2one_name (b0 off0 len cap : Nat) (bs : List Int) (i : Nat) (w : World) (hB : Bs w (some ⟨b0, off0, none⟩) len bs) (hl3 : len ≤ 100000) (hcap : len ≤ cap) (hi : i < len) (hch : bs[i]? = some 60) :
    Calls Tryz.prog 81 #[.slice (some ⟨b0, off0, none⟩) len cap, .int .i64 i] w (TokA (tokOf (bs.drop i)) i w) := by
  have HB : Hid (Bs w (some ⟨b0, off0, none⟩) len bs) := hB
  have HN : Hid (bs.length = len) := hB.1
  obtain ⟨b0', off0', c, e0, hc, hd, c0, c1⟩ := hB.byte hi
  cases e0
  have HD : Hid (bs.drop i = c :: bs.drop (i + 1)) := hd
  have hiz : (i : Int) < (len : Int) := by omega
  have hic : i ≤ cap := by omega
  have hicn : ¬ cap = i := by omega
  have hc1 : (w.alloc (.cells [.int .i64 0, .int .i64 0, .int .i64 0, .slice none 0 0, .int .i64 0, .int .i64 0, .slice none 0 0].toArray 77)).cell? ⟨b0, off0 + i, none⟩ = some (.int .u8 c) := ((bl_a (w := w) _).cell (p := ⟨b0, off0 + i, none⟩) (cell_ltC hc)).trans hc
  have HW2 : Hid (Below w.heap.size w ((w.alloc (.cells [.int .i64 0, .int .i64 0, .int .i64 0, .slice none 0 0, .int .i64 0, .int .i64 0, .slice none 0 0].toArray 77)).alloc (.cells [.int .i64 1, .int .i64 i, .int .i64 0, .slice none 0 0, .int .i64 0, .int .i64 0, .slice none 0 0].toArray 77))) := bl_alloc (bl_a _) _
  have HX2 : Hid (Bx ((w.alloc (.cells [.int .i64 0, .int .i64 0, .int .i64 0, .slice none 0 0, .int .i64 0, .int .i64 0, .slice none 0 0].toArray 77)).alloc (.cells [.int .i64 1, .int .i64 i, .int .i64 0, .slice none 0 0, .int .i64 0, .int .i64 0, .slice none 0 0].toArray 77)) (w.heap.size + 1) [.int .i64 1, .int .i64 i, .int .i64 0, .slice none 0 0, .int .i64 0, .int .i64 0, .slice none 0 0]) := Bx.new (w.alloc (.cells [.int .i64 0, .int .i64 0, .int .i64 0, .slice none 0 0, .int .i64 0, .int .i64 0, .slice none 0 0].toArray 77)) (w.heap.size + 1) _ 77 (by simp)
  have HR2 : Hid (Bx ((w.alloc (.cells [.int .i64 0, .int .i64 0, .int .i64 0, .slice none 0 0, .int .i64 0, .int .i64 0, .slice none 0 0].toArray 77)).alloc (.cells [.int .i64 1, .int .i64 i, .int .i64 0, .slice none 0 0, .int .i64 0, .int .i64 0, .slice none 0 0].toArray 77)) w.heap.size [.int .i64 0, .int .i64 0, .int .i64 0, .slice none 0 0, .int .i64 0, .int .i64 0, .slice none 0 0]) := (Bx.new w w.heap.size _ 77 rfl).below (bl_a _)
  have e0c : bs[i]? = (bs.drop i)[0]? := by rw [List.getElem?_drop]; rfl
  have hcc : c = 60 := by
    rw [e0c, hd] at hch
    exact Option.some.inj hch
  subst hcc
  clear e0c hch
  have EN : Calls Tryz.prog 122 #[.slice (some ⟨b0, off0, none⟩) len cap, .int .i64 ((i : Int) + 1)] ((w.alloc (.cells [.int .i64 0, .int .i64 0, .int .i64 0, .slice none 0 0, .int .i64 0, .int .i64 0, .slice none 0 0].toArray 77)).alloc (.cells [.int .i64 1, .int .i64 i, .int .i64 0, .slice none 0 0, .int .i64 0, .int .i64 0, .slice none 0 0].toArray 77)) fun e w' => e = .returned (.int .i64 ((i + 1 + pieceLen (bs.drop (i + 1)) : Nat) : Int)) ∧ w' = ((w.alloc (.cells [.int .i64 0, .int .i64 0, .int .i64 0, .slice none 0 0, .int .i64 0, .int .i64 0, .slice none 0 0].toArray 77)).alloc (.cells [.int .i64 1, .int .i64 i, .int .i64 0, .slice none 0 0, .int .i64 0, .int .i64 0, .slice none 0 0].toArray 77)) := l2end_any _ len cap bs (i + 1) _ (hB.below HW2.out) (by omega)
  clear hB hd hc
  go_enter Tryz.func81, Tryz.ntmps81
  go_wp2_with fail
  refine EN.mono ?_
  rintro e w2 ⟨rfl, hw2⟩
  clear EN hc1
  rw [← hw2] at HW2 HX2 HR2
  clear hw2
  obtain ⟨E, hE⟩ : ∃ E, i + 1 + pieceLen (bs.drop (i + 1)) = E := ⟨_, rfl⟩
  have hEl := piece_len HN.out (show i + 1 ≤ len by omega) hE
  obtain ⟨hEa, hEb⟩ := hEl
  have HTK : Hid ((nameOk ((bs.drop (i + 1)).take (E - (i + 1))) = true → bs[E]? = some 62 → tokOf (bs.drop i) = some ⟨0, 60 :: ((bs.drop (i + 1)).take (E - (i + 1)) ++ [62]), ⟨0, (bs.drop (i + 1)).take (E - (i + 1)), 0, 0⟩⟩) ∧ ((nameOk ((bs.drop (i + 1)).take (E - (i + 1))) = false ∨ bs[E]? ≠ some 62) → tokOf (bs.drop i) = some ⟨3, [60], td0⟩)) := by
    have e1 : E - (i + 1) = pieceLen (bs.drop (i + 1)) := by omega
    have e2 : bs[E]? = ((bs.drop (i + 1)).drop (pieceLen (bs.drop (i + 1))))[0]? := by
      rw [List.getElem?_drop, List.getElem?_drop]
      congr 1
      omega
    rw [HD.out, e1, e2]
    exact tok_name _
  rw [hE]
  clear hE
  have hE2c : E ≤ cap := by omega
  have HUL : Hid (((bs.drop (i + 1)).take (E - (i + 1))).length = E - (i + 1)) := by
    show _ = _
    rw [List.length_take, List.length_drop]
    have := HN.out
    omega
  obtain ⟨us, hus⟩ : ∃ us, us = (bs.drop (i + 1)).take (E - (i + 1)) := ⟨_, rfl⟩
  have HPC : Hid (∀ A : Option Addr, (A = some ⟨b0, off0 + (i + 1), none⟩ ∨ (E = i + 1 ∧ A = some ⟨b0, off0, none⟩)) → ∀ W, Below w.heap.size w W → Src Tryz.prog 1 22 (.slice A (E - (i + 1)) (cap - (i + 1))) (E - (i + 1)) (us.map (Value.int .u8)) W) := by
    intro A hA W hW
    rw [hus]
    exact src_bs ((piece_of HB.out hEa hEb hA).below hW)
  have HYU : Hid (Byt ([] ++ us)) := by
    show Byt _
    rw [List.nil_append, hus]
    exact ((byt_raw HB.out).dropB _).takeB _
  rw [← hus] at HTK HUL
  clear hus
  have HTX : Hid (Tz (w2.alloc (.cells #[] 5)) w2.heap.size (some ⟨w2.heap.size, 0, none⟩) 0 0 []) := Tz.new0 w2
  have HBX : Hid (Below w.heap.size w (w2.alloc (.cells #[] 5))) := bl_trans HW2.out (bl_a _)
  have hBX : w2.heap.size ≤ (w2.alloc (.cells #[] 5)).heap.size := by simp
  have hw2l : w.heap.size + 1 < w2.heap.size := HX2.out.lt
  have HX3 : Hid (Bx (w2.alloc (.cells #[] 5)) (w.heap.size + 1) [.int .i64 1, .int .i64 i, .int .i64 0, .slice none 0 0, .int .i64 0, .int .i64 0, .slice none 0 0]) := HX2.out.below (bl_a _)
  have HR3 : Hid (Bx (w2.alloc (.cells #[] 5)) w.heap.size [.int .i64 0, .int .i64 0, .int .i64 0, .slice none 0 0, .int .i64 0, .int .i64 0, .slice none 0 0]) := HR2.out.below (bl_a _)
  clear HX2 HR2
  go_upto_region 15 with (first
    | (refine list_slice rfl (.tmp 87) (.tmp 89) (.tmp 90) rfl b0 off0 len cap (i + 1) E rfl rfl rfl hEa hE2c ?_; intro A hA; have HSX := HPC.out A hA _ HBX.out; have HSX' : Hid (Src Tryz.prog 1 22 (.slice A (E - (i + 1)) (cap - (i + 1))) (E - (i + 1)) (us.map (Value.int .u8)) (w2.alloc (.cells #[] 5))) := HSX; clear HSX)
    | (refine list_app8z rfl (.tmp 86) (.tmp 91) 22 rfl w2.heap.size 0 0 (some ⟨w2.heap.size, 0, none⟩) [] rfl HTX (.slice A (E - (i + 1)) (cap - (i + 1))) (E - (i + 1)) us rfl (fun h => by cases h) HSX' HYU (E - (i + 1)) (Nat.zero_add _) us (List.nil_append _) (by omega) hBX ?_; intro g4 c4 w4 HT4 HD4; have HX4 : Hid (Bx w4 (w.heap.size + 1) [.int .i64 1, .int .i64 i, .int .i64 0, .slice none 0 0, .int .i64 0, .int .i64 0, .slice none 0 0]) := HX3.out.belowB HD4.out (by omega); have HR4 : Hid (Bx w4 w.heap.size [.int .i64 0, .int .i64 0, .int .i64 0, .slice none 0 0, .int .i64 0, .int .i64 0, .slice none 0 0]) := HR3.out.belowB HD4.out (by omega); have HW4 : Hid (Below w.heap.size w w4) := HBX.out.trans (HD4.out.mono (by omega)); have hw4l : w2.heap.size ≤ w4.heap.size := Nat.le_trans hBX HD4.out.size; obtain ⟨z0, z1, z2, z3, z4, z5, z6⟩ := bx7 HX4.out; obtain ⟨y0, y1, y2, y3, y4, y5, y6⟩ := bx7 HR4.out; obtain ⟨e0, e1, e2, e3, e4, e5, e6⟩ := bx7f HR4.out; obtain ⟨f0, f1, f2, f3, f4, f5, f6⟩ := bx7f HX4.out))
  have HX5 : Hid (Bx ((((w4.setCell ⟨w.heap.size + 1, 2, none⟩ (.int .i64 0)).setCell ⟨w.heap.size + 1, 3, none⟩ (.slice (some ⟨g4, 0, none⟩) (E - (i + 1)) c4)).setCell ⟨w.heap.size + 1, 4, none⟩ (.int .i64 0)).setCell ⟨w.heap.size + 1, 5, none⟩ (.int .i64 0)) (w.heap.size + 1) [.int .i64 1, .int .i64 i, .int .i64 0, .slice (some ⟨g4, 0, none⟩) (E - (i + 1)) c4, .int .i64 0, .int .i64 0, .slice none 0 0]) := (((HX4.out.set 2 (.int .i64 0) (by simp)).set 3 (.slice (some ⟨g4, 0, none⟩) (E - (i + 1)) c4) (by simp)).set 4 (.int .i64 0) (by simp)).set 5 (.int .i64 0) (by simp)
  have HR5 : Hid (Bx ((((w4.setCell ⟨w.heap.size + 1, 2, none⟩ (.int .i64 0)).setCell ⟨w.heap.size + 1, 3, none⟩ (.slice (some ⟨g4, 0, none⟩) (E - (i + 1)) c4)).setCell ⟨w.heap.size + 1, 4, none⟩ (.int .i64 0)).setCell ⟨w.heap.size + 1, 5, none⟩ (.int .i64 0)) w.heap.size [.int .i64 0, .int .i64 0, .int .i64 0, .slice none 0 0, .int .i64 0, .int .i64 0, .slice none 0 0]) := ((((HR4.out.other 2 (.int .i64 0) (c := w.heap.size + 1) (by omega)).other 3 (.slice (some ⟨g4, 0, none⟩) (E - (i + 1)) c4) (c := w.heap.size + 1) (by omega)).other 4 (.int .i64 0) (c := w.heap.size + 1) (by omega)).other 5 (.int .i64 0) (c := w.heap.size + 1) (by omega))
  have HW5 : Hid (Below w.heap.size w ((((w4.setCell ⟨w.heap.size + 1, 2, none⟩ (.int .i64 0)).setCell ⟨w.heap.size + 1, 3, none⟩ (.slice (some ⟨g4, 0, none⟩) (E - (i + 1)) c4)).setCell ⟨w.heap.size + 1, 4, none⟩ (.int .i64 0)).setCell ⟨w.heap.size + 1, 5, none⟩ (.int .i64 0))) := ((((HW4.out.setCell (p := ⟨w.heap.size + 1, 2, none⟩) (by show w.heap.size ≤ w.heap.size + 1; omega) (.int .i64 0)).setCell (p := ⟨w.heap.size + 1, 3, none⟩) (by show w.heap.size ≤ w.heap.size + 1; omega) (.slice (some ⟨g4, 0, none⟩) (E - (i + 1)) c4)).setCell (p := ⟨w.heap.size + 1, 4, none⟩) (by show w.heap.size ≤ w.heap.size + 1; omega) (.int .i64 0)).setCell (p := ⟨w.heap.size + 1, 5, none⟩) (by show w.heap.size ≤ w.heap.size + 1; omega) (.int .i64 0))
  have HT5 : Hid (Tz ((((w4.setCell ⟨w.heap.size + 1, 2, none⟩ (.int .i64 0)).setCell ⟨w.heap.size + 1, 3, none⟩ (.slice (some ⟨g4, 0, none⟩) (E - (i + 1)) c4)).setCell ⟨w.heap.size + 1, 4, none⟩ (.int .i64 0)).setCell ⟨w.heap.size + 1, 5, none⟩ (.int .i64 0)) w2.heap.size (some ⟨g4, 0, none⟩) (E - (i + 1)) c4 us) := HT4.out.past ((((Past.refl (w.heap.size + 1) w4).set 2 _).set 3 _ |>.set 4 _).set 5 _) (by omega)
  generalize hw5 : ((((w4.setCell ⟨w.heap.size + 1, 2, none⟩ (.int .i64 0)).setCell ⟨w.heap.size + 1, 3, none⟩ (.slice (some ⟨g4, 0, none⟩) (E - (i + 1)) c4)).setCell ⟨w.heap.size + 1, 4, none⟩ (.int .i64 0)).setCell ⟨w.heap.size + 1, 5, none⟩ (.int .i64 0)) = w5 at *
  clear HX4 HR4 HW4 HT4 HD4 z0 z1 z2 z3 z4 z5 z6 y0 y1 y2 y3 y4 y5 y6 e0 e1 e2 e3 e4 e5 e6 f0 f1 f2 f3 f4 f5 f6 hw5
  by_cases hEl : E < len
  · have hElz : (E : Int) < (len : Int) := by omega
    obtain ⟨b1', off1', x, ex, hx, hdx, x0, x1⟩ := HB.out.byte hEl
    cases ex
    have HXE : Hid (bs[E]? = some x) := by
      show _ = _
      have e : bs[E]? = (bs.drop E)[0]? := by rw [List.getElem?_drop]; rfl
      rw [e, hdx]
      rfl
    have hxw : w5.cell? ⟨b0, off0 + E, none⟩ = some (.int .u8 x) := (HW5.out.cell (p := ⟨b0, off0 + E, none⟩) (cell_ltC hx)).trans hx
    clear hdx hx
    by_cases hx62 : x = 62
    · have hx62b : (x == 62) = true := by simp [hx62]
      have HX62 : Hid (bs[E]? = some 62) := by
        show _ = _
        rw [HXE.out, hx62]
      have TOK : Hid (Calls Tryz.prog 8 #[.agg #[.int .i64 0, .slice (some ⟨g4, 0, none⟩) (E - (i + 1)) c4, .int .i64 0, .int .i64 0]] w5 fun e w' => e = .returned (.bool (nameOk us)) ∧ ∃ o1, w' = w5.alloc o1) := by
        have h := specTermOk_any 0 0 0 (some ⟨g4, 0, none⟩) (E - (i + 1)) c4 us w5 HT5.out.1 (by omega) (by omega)
        rwa [show termOk 0 us 0 0 = nameOk us by simp [termOk]] at h
      clear HXE hx62
      obtain ⟨z0, z1, z2, z3, z4, z5, z6⟩ := bx7 HX5.out
      go_wp2_with fail
      refine TOK.out.mono ?_
      rintro e wc ⟨rfl, o, hwc⟩
      have HXc : Hid (Bx wc (w.heap.size + 1) [.int .i64 1, .int .i64 i, .int .i64 0, .slice (some ⟨g4, 0, none⟩) (E - (i + 1)) c4, .int .i64 0, .int .i64 0, .slice none 0 0]) := by rw [hwc]; exact HX5.out.below (bl_a _)
      have HRc : Hid (Bx wc w.heap.size [.int .i64 0, .int .i64 0, .int .i64 0, .slice none 0 0, .int .i64 0, .int .i64 0, .slice none 0 0]) := by rw [hwc]; exact HR5.out.below (bl_a _)
      have HWc : Hid (Below w.heap.size w wc) := by rw [hwc]; exact bl_trans HW5.out (bl_a _)
      have HTc : Hid (Tz wc w2.heap.size (some ⟨g4, 0, none⟩) (E - (i + 1)) c4 us) := by rw [hwc]; exact HT5.out.below (bl_a _)
      clear z0 z1 z2 z3 z4 z5 z6 hwc TOK HX5 HR5 HW5 HT5 hxw
      cases hq : nameOk us with
      | false =>
        have HSG : Hid (tokOf (bs.drop i) = some ⟨3, [60], td0⟩) := HTK.out.2 (.inl hq)
        clear hq HTK HX62
        have HX6 : Hid (Bx (wc.setCell ⟨w.heap.size + 1, 0, none⟩ (.int .i64 5)) (w.heap.size + 1) [.int .i64 5, .int .i64 i, .int .i64 0, .slice (some ⟨g4, 0, none⟩) (E - (i + 1)) c4, .int .i64 0, .int .i64 0, .slice none 0 0]) := HXc.out.set 0 (.int .i64 5) (by simp)
        have HX7 : Hid (Bx ((wc.setCell ⟨w.heap.size + 1, 0, none⟩ (.int .i64 5)).alloc (.cells #[.int .u8 60] 5)) (w.heap.size + 1) [.int .i64 5, .int .i64 i, .int .i64 0, .slice (some ⟨g4, 0, none⟩) (E - (i + 1)) c4, .int .i64 0, .int .i64 0, .slice none 0 0]) := HX6.out.below (bl_a _)
        have HR7 : Hid (Bx ((wc.setCell ⟨w.heap.size + 1, 0, none⟩ (.int .i64 5)).alloc (.cells #[.int .u8 60] 5)) w.heap.size [.int .i64 0, .int .i64 0, .int .i64 0, .slice none 0 0, .int .i64 0, .int .i64 0, .slice none 0 0]) := (HRc.out.other 0 (.int .i64 5) (c := w.heap.size + 1) (by omega)).below (bl_a _)
        have HW7 : Hid (Below w.heap.size w ((wc.setCell ⟨w.heap.size + 1, 0, none⟩ (.int .i64 5)).alloc (.cells #[.int .u8 60] 5))) := bl_trans (HWc.out.setCell (p := ⟨w.heap.size + 1, 0, none⟩) (by show w.heap.size ≤ w.heap.size + 1; omega) (.int .i64 5)) (bl_a _)
        have HL7 : Hid ((⟨5, i, ⟨0, some ⟨g4, 0, none⟩, E - (i + 1), c4, 0, 0⟩, us, some ⟨wc.heap.size, 0, none⟩, 1, 1, [60]⟩ : MT).lies ((wc.setCell ⟨w.heap.size + 1, 0, none⟩ (.int .i64 5)).alloc (.cells #[.int .u8 60] 5))) := ⟨((HTc.out.bs0.set (HXc.out.c 0 _ rfl) (not_u8 _) 0 (.int .i64 5)).below (bl_a _)), Bs0.oneAt _ 60 _ (by simp) (by omega), fits0 _ _ _ _⟩
        have q0 := HXc.out.c 0 _ rfl
        have qf0 := HXc.out.f 0 (by simp)
        obtain ⟨z0, z1, z2, z3, z4, z5, z6⟩ := bx7 HX7.out
        obtain ⟨y0, y1, y2, y3, y4, y5, y6⟩ := bx7 HR7.out
        obtain ⟨e0, e1, e2, e3, e4, e5, e6⟩ := bx7f HR7.out
        have f6 := HX7.out.f 6 (by simp)
        have HTT : Hid (∃ t, tokOf (bs.drop i) = some t ∧ (⟨5, i, ⟨0, some ⟨g4, 0, none⟩, E - (i + 1), c4, 0, 0⟩, us, some ⟨wc.heap.size, 0, none⟩, 1, 1, [60]⟩ : MT).is i t ∧ (i : Int) + 1 = ((i + t.raw.length : Nat) : Int)) := ⟨_, HSG.out, ⟨rfl, rfl, fun h => (by cases h), rfl⟩, rfl⟩
        clear HX6
        go_wp2_with fail
        have hl8 : (⟨5, i, ⟨0, some ⟨g4, 0, none⟩, E - (i + 1), c4, 0, 0⟩, us, some ⟨wc.heap.size, 0, none⟩, 1, 1, [60]⟩ : MT).lies (((wc.setCell ⟨w.heap.size + 1, 0, none⟩ (.int .i64 5)).alloc (.cells #[.int .u8 60] 5)).setCell ⟨w.heap.size + 1, 6, none⟩ (.slice (some ⟨wc.heap.size, 0, none⟩) 1 1)) := HL7.out.set z0 (not_u8 _) 6 _
        have hF := fin7 (m := ⟨5, i, ⟨0, some ⟨g4, 0, none⟩, E - (i + 1), c4, 0, 0⟩, us, some ⟨wc.heap.size, 0, none⟩, 1, 1, [60]⟩) (rb := w.heap.size) (Nat.le_refl _) (HR7.out.other 6 (.slice (some ⟨wc.heap.size, 0, none⟩) 1 1) (c := w.heap.size + 1) (by omega)) hl8 (HW7.out.setCell (p := ⟨w.heap.size + 1, 6, none⟩) (by show w.heap.size ≤ w.heap.size + 1; omega) (.slice (some ⟨wc.heap.size, 0, none⟩) 1 1))
        refine bodyPost_ret (v := .tuple #[.agg #[.int .i64 5, .int .i64 i, .int .i64 0, .slice (some ⟨g4, 0, none⟩) (E - (i + 1)) c4, .int .i64 0, .int .i64 0, .slice (some ⟨wc.heap.size, 0, none⟩) 1 1], .int .i64 ((i : Int) + 1)]) (by simp [results, Tryz.results81, go_sem, *]) rfl ⟨⟨⟨5, i, ⟨0, some ⟨g4, 0, none⟩, E - (i + 1), c4, 0, 0⟩, us, some ⟨wc.heap.size, 0, none⟩, 1, 1, [60]⟩, _, rfl, hF.1, .inl HTT.out⟩, hF.2⟩
      | true =>
        have HTT : Hid (∃ t, tokOf (bs.drop i) = some t ∧ (⟨1, i, ⟨0, some ⟨g4, 0, none⟩, E - (i + 1), c4, 0, 0⟩, us, none, 0, 0, []⟩ : MT).is i t ∧ (E : Int) + 1 = ((i + t.raw.length : Nat) : Int)) := by
          refine ⟨_, HTK.out.1 hq HX62.out, ⟨rfl, rfl, fun _ => rfl, rfl⟩, ?_⟩
          have := HUL.out
          show (E : Int) + 1 = ((i + (60 :: (us ++ [62])).length : Nat) : Int)
          rw [List.length_cons, List.length_append, this]
          simp
          omega
        clear hq HTK HX62
        obtain ⟨z0, z1, z2, z3, z4, z5, z6⟩ := bx7 HXc.out
        obtain ⟨y0, y1, y2, y3, y4, y5, y6⟩ := bx7 HRc.out
        obtain ⟨e0, e1, e2, e3, e4, e5, e6⟩ := bx7f HRc.out
        go_wp2_with fail
        have hF := fin7 (m := ⟨1, i, ⟨0, some ⟨g4, 0, none⟩, E - (i + 1), c4, 0, 0⟩, us, none, 0, 0, []⟩) (rb := w.heap.size) (Nat.le_refl _) HRc.out ⟨HTc.out.bs0, Bs0.nil _ _, fits0 _ _ _ _⟩ HWc.out
        refine bodyPost_ret (v := .tuple #[.agg #[.int .i64 1, .int .i64 i, .int .i64 0, .slice (some ⟨g4, 0, none⟩) (E - (i + 1)) c4, .int .i64 0, .int .i64 0, .slice none 0 0], .int .i64 ((E : Int) + 1)]) (by simp [results, Tryz.results81, go_sem, *]) rfl ⟨⟨⟨1, i, ⟨0, some ⟨g4, 0, none⟩, E - (i + 1), c4, 0, 0⟩, us, none, 0, 0, []⟩, _, rfl, hF.1, .inl HTT.out⟩, hF.2⟩
    · have hx62b : (x == 62) = false := by simp [hx62]
      have HSG : Hid (tokOf (bs.drop i) = some ⟨3, [60], td0⟩) := HTK.out.2 (.inr (by rw [HXE.out]; simpa using hx62))
      clear HXE hx62 HTK
      have HX6 : Hid (Bx (w5.setCell ⟨w.heap.size + 1, 0, none⟩ (.int .i64 5)) (w.heap.size + 1) [.int .i64 5, .int .i64 i, .int .i64 0, .slice (some ⟨g4, 0, none⟩) (E - (i + 1)) c4, .int .i64 0, .int .i64 0, .slice none 0 0]) := HX5.out.set 0 (.int .i64 5) (by simp)
      have HX7 : Hid (Bx ((w5.setCell ⟨w.heap.size + 1, 0, none⟩ (.int .i64 5)).alloc (.cells #[.int .u8 60] 5)) (w.heap.size + 1) [.int .i64 5, .int .i64 i, .int .i64 0, .slice (some ⟨g4, 0, none⟩) (E - (i + 1)) c4, .int .i64 0, .int .i64 0, .slice none 0 0]) := HX6.out.below (bl_a _)
      have HR7 : Hid (Bx ((w5.setCell ⟨w.heap.size + 1, 0, none⟩ (.int .i64 5)).alloc (.cells #[.int .u8 60] 5)) w.heap.size [.int .i64 0, .int .i64 0, .int .i64 0, .slice none 0 0, .int .i64 0, .int .i64 0, .slice none 0 0]) := (HR5.out.other 0 (.int .i64 5) (c := w.heap.size + 1) (by omega)).below (bl_a _)
      have HW7 : Hid (Below w.heap.size w ((w5.setCell ⟨w.heap.size + 1, 0, none⟩ (.int .i64 5)).alloc (.cells #[.int .u8 60] 5))) := bl_trans (HW5.out.setCell (p := ⟨w.heap.size + 1, 0, none⟩) (by show w.heap.size ≤ w.heap.size + 1; omega) (.int .i64 5)) (bl_a _)
      have HL7 : Hid ((⟨5, i, ⟨0, some ⟨g4, 0, none⟩, E - (i + 1), c4, 0, 0⟩, us, some ⟨w5.heap.size, 0, none⟩, 1, 1, [60]⟩ : MT).lies ((w5.setCell ⟨w.heap.size + 1, 0, none⟩ (.int .i64 5)).alloc (.cells #[.int .u8 60] 5))) := ⟨((HT5.out.bs0.set (HX5.out.c 0 _ rfl) (not_u8 _) 0 (.int .i64 5)).below (bl_a _)), Bs0.oneAt _ 60 _ (by simp) (by omega), fits0 _ _ _ _⟩
      have q0 := HX5.out.c 0 _ rfl
      have qf0 := HX5.out.f 0 (by simp)
      obtain ⟨z0, z1, z2, z3, z4, z5, z6⟩ := bx7 HX7.out
      obtain ⟨y0, y1, y2, y3, y4, y5, y6⟩ := bx7 HR7.out
      obtain ⟨e0, e1, e2, e3, e4, e5, e6⟩ := bx7f HR7.out
      have f6 := HX7.out.f 6 (by simp)
      have HTT : Hid (∃ t, tokOf (bs.drop i) = some t ∧ (⟨5, i, ⟨0, some ⟨g4, 0, none⟩, E - (i + 1), c4, 0, 0⟩, us, some ⟨w5.heap.size, 0, none⟩, 1, 1, [60]⟩ : MT).is i t ∧ (i : Int) + 1 = ((i + t.raw.length : Nat) : Int)) := ⟨_, HSG.out, ⟨rfl, rfl, fun h => (by cases h), rfl⟩, rfl⟩
      clear HX6
      go_wp2_with fail
      have hl8 : (⟨5, i, ⟨0, some ⟨g4, 0, none⟩, E - (i + 1), c4, 0, 0⟩, us, some ⟨w5.heap.size, 0, none⟩, 1, 1, [60]⟩ : MT).lies (((w5.setCell ⟨w.heap.size + 1, 0, none⟩ (.int .i64 5)).alloc (.cells #[.int .u8 60] 5)).setCell ⟨w.heap.size + 1, 6, none⟩ (.slice (some ⟨w5.heap.size, 0, none⟩) 1 1)) := HL7.out.set z0 (not_u8 _) 6 _
      have hF := fin7 (m := ⟨5, i, ⟨0, some ⟨g4, 0, none⟩, E - (i + 1), c4, 0, 0⟩, us, some ⟨w5.heap.size, 0, none⟩, 1, 1, [60]⟩) (rb := w.heap.size) (Nat.le_refl _) (HR7.out.other 6 (.slice (some ⟨w5.heap.size, 0, none⟩) 1 1) (c := w.heap.size + 1) (by omega)) hl8 (HW7.out.setCell (p := ⟨w.heap.size + 1, 6, none⟩) (by show w.heap.size ≤ w.heap.size + 1; omega) (.slice (some ⟨w5.heap.size, 0, none⟩) 1 1))
      refine bodyPost_ret (v := .tuple #[.agg #[.int .i64 5, .int .i64 i, .int .i64 0, .slice (some ⟨g4, 0, none⟩) (E - (i + 1)) c4, .int .i64 0, .int .i64 0, .slice (some ⟨w5.heap.size, 0, none⟩) 1 1], .int .i64 ((i : Int) + 1)]) (by simp [results, Tryz.results81, go_sem, *]) rfl ⟨⟨⟨5, i, ⟨0, some ⟨g4, 0, none⟩, E - (i + 1), c4, 0, 0⟩, us, some ⟨w5.heap.size, 0, none⟩, 1, 1, [60]⟩, _, rfl, hF.1, .inl HTT.out⟩, hF.2⟩
  · have hElz : ¬ (E : Int) < (len : Int) := by omega
    have HSG : Hid (tokOf (bs.drop i) = some ⟨3, [60], td0⟩) := HTK.out.2 (.inr (by rw [List.getElem?_eq_none (by have := HN.out; omega)]; simp))
    clear HTK
    have HX6 : Hid (Bx (w5.setCell ⟨w.heap.size + 1, 0, none⟩ (.int .i64 5)) (w.heap.size + 1) [.int .i64 5, .int .i64 i, .int .i64 0, .slice (some ⟨g4, 0, none⟩) (E - (i + 1)) c4, .int .i64 0, .int .i64 0, .slice none 0 0]) := HX5.out.set 0 (.int .i64 5) (by simp)
    have HX7 : Hid (Bx ((w5.setCell ⟨w.heap.size + 1, 0, none⟩ (.int .i64 5)).alloc (.cells #[.int .u8 60] 5)) (w.heap.size + 1) [.int .i64 5, .int .i64 i, .int .i64 0, .slice (some ⟨g4, 0, none⟩) (E - (i + 1)) c4, .int .i64 0, .int .i64 0, .slice none 0 0]) := HX6.out.below (bl_a _)
    have HR7 : Hid (Bx ((w5.setCell ⟨w.heap.size + 1, 0, none⟩ (.int .i64 5)).alloc (.cells #[.int .u8 60] 5)) w.heap.size [.int .i64 0, .int .i64 0, .int .i64 0, .slice none 0 0, .int .i64 0, .int .i64 0, .slice none 0 0]) := (HR5.out.other 0 (.int .i64 5) (c := w.heap.size + 1) (by omega)).below (bl_a _)
    have HW7 : Hid (Below w.heap.size w ((w5.setCell ⟨w.heap.size + 1, 0, none⟩ (.int .i64 5)).alloc (.cells #[.int .u8 60] 5))) := bl_trans (HW5.out.setCell (p := ⟨w.heap.size + 1, 0, none⟩) (by show w.heap.size ≤ w.heap.size + 1; omega) (.int .i64 5)) (bl_a _)
    have HL7 : Hid ((⟨5, i, ⟨0, some ⟨g4, 0, none⟩, E - (i + 1), c4, 0, 0⟩, us, some ⟨w5.heap.size, 0, none⟩, 1, 1, [60]⟩ : MT).lies ((w5.setCell ⟨w.heap.size + 1, 0, none⟩ (.int .i64 5)).alloc (.cells #[.int .u8 60] 5))) := ⟨((HT5.out.bs0.set (HX5.out.c 0 _ rfl) (not_u8 _) 0 (.int .i64 5)).below (bl_a _)), Bs0.oneAt _ 60 _ (by simp) (by omega), fits0 _ _ _ _⟩
    have q0 := HX5.out.c 0 _ rfl
    have qf0 := HX5.out.f 0 (by simp)
    obtain ⟨z0, z1, z2, z3, z4, z5, z6⟩ := bx7 HX7.out
    obtain ⟨y0, y1, y2, y3, y4, y5, y6⟩ := bx7 HR7.out
    obtain ⟨e0, e1, e2, e3, e4, e5, e6⟩ := bx7f HR7.out
    have f6 := HX7.out.f 6 (by simp)
    have HTT : Hid (∃ t, tokOf (bs.drop i) = some t ∧ (⟨5, i, ⟨0, some ⟨g4, 0, none⟩, E - (i + 1), c4, 0, 0⟩, us, some ⟨w5.heap.size, 0, none⟩, 1, 1, [60]⟩ : MT).is i t ∧ (i : Int) + 1 = ((i + t.raw.length : Nat) : Int)) := ⟨_, HSG.out, ⟨rfl, rfl, fun h => (by cases h), rfl⟩, rfl⟩
    clear HX6
    go_wp2_with fail
    have hl8 : (⟨5, i, ⟨0, some ⟨g4, 0, none⟩, E - (i + 1), c4, 0, 0⟩, us, some ⟨w5.heap.size, 0, none⟩, 1, 1, [60]⟩ : MT).lies (((w5.setCell ⟨w.heap.size + 1, 0, none⟩ (.int .i64 5)).alloc (.cells #[.int .u8 60] 5)).setCell ⟨w.heap.size + 1, 6, none⟩ (.slice (some ⟨w5.heap.size, 0, none⟩) 1 1)) := HL7.out.set z0 (not_u8 _) 6 _
    have hF := fin7 (m := ⟨5, i, ⟨0, some ⟨g4, 0, none⟩, E - (i + 1), c4, 0, 0⟩, us, some ⟨w5.heap.size, 0, none⟩, 1, 1, [60]⟩) (rb := w.heap.size) (Nat.le_refl _) (HR7.out.other 6 (.slice (some ⟨w5.heap.size, 0, none⟩) 1 1) (c := w.heap.size + 1) (by omega)) hl8 (HW7.out.setCell (p := ⟨w.heap.size + 1, 6, none⟩) (by show w.heap.size ≤ w.heap.size + 1; omega) (.slice (some ⟨w5.heap.size, 0, none⟩) 1 1))
    refine bodyPost_ret (v := .tuple #[.agg #[.int .i64 5, .int .i64 i, .int .i64 0, .slice (some ⟨g4, 0, none⟩) (E - (i + 1)) c4, .int .i64 0, .int .i64 0, .slice (some ⟨w5.heap.size, 0, none⟩) 1 1], .int .i64 ((i : Int) + 1)]) (by simp [results, Tryz.results81, go_sem, *]) rfl ⟨⟨⟨5, i, ⟨0, some ⟨g4, 0, none⟩, E - (i + 1), c4, 0, 0⟩, us, some ⟨w5.heap.size, 0, none⟩, 1, 1, [60]⟩, _, rfl, hF.1, .inl HTT.out⟩, hF.2⟩
end Go.Proofs.YtoclingolfdfeaaGreatDoor

/- LxJ3 -/
namespace Go.Proofs.YtoclingolfdfeaaGreatDoor
open Go.RowKit Go.Deep
set_option maxRecDepth 100000

set_option maxHeartbeats 16000000 in
theorem l2one_quote (b0 off0 len cap : Nat) (bs : List Int) (i : Nat) (w : World) (hB : Bs w (some ⟨b0, off0, none⟩) len bs) (hl3 : len ≤ 100000) (hcap : len ≤ cap) (hi : i < len) (hch : bs[i]? = some 34) :
    Calls Tryz.prog 81 #[.slice (some ⟨b0, off0, none⟩) len cap, .int .i64 i] w (TokA (tokOf (bs.drop i)) i w) := by
  have HB : Hid (Bs w (some ⟨b0, off0, none⟩) len bs) := hB
  have HN : Hid (bs.length = len) := hB.1
  obtain ⟨b0', off0', c, e0, hc, hd, c0, c1⟩ := hB.byte hi
  cases e0
  have HD : Hid (bs.drop i = c :: bs.drop (i + 1)) := hd
  have hiz : (i : Int) < (len : Int) := by omega
  have hic : i ≤ cap := by omega
  have hicn : ¬ cap = i := by omega
  have hc1 : (w.alloc (.cells [.int .i64 0, .int .i64 0, .int .i64 0, .slice none 0 0, .int .i64 0, .int .i64 0, .slice none 0 0].toArray 77)).cell? ⟨b0, off0 + i, none⟩ = some (.int .u8 c) := ((bl_a (w := w) _).cell (p := ⟨b0, off0 + i, none⟩) (cell_ltC hc)).trans hc
  have HW2 : Hid (Below w.heap.size w ((w.alloc (.cells [.int .i64 0, .int .i64 0, .int .i64 0, .slice none 0 0, .int .i64 0, .int .i64 0, .slice none 0 0].toArray 77)).alloc (.cells [.int .i64 1, .int .i64 i, .int .i64 0, .slice none 0 0, .int .i64 0, .int .i64 0, .slice none 0 0].toArray 77))) := bl_alloc (bl_a _) _
  have HX2 : Hid (Bx ((w.alloc (.cells [.int .i64 0, .int .i64 0, .int .i64 0, .slice none 0 0, .int .i64 0, .int .i64 0, .slice none 0 0].toArray 77)).alloc (.cells [.int .i64 1, .int .i64 i, .int .i64 0, .slice none 0 0, .int .i64 0, .int .i64 0, .slice none 0 0].toArray 77)) (w.heap.size + 1) [.int .i64 1, .int .i64 i, .int .i64 0, .slice none 0 0, .int .i64 0, .int .i64 0, .slice none 0 0]) := Bx.new (w.alloc (.cells [.int .i64 0, .int .i64 0, .int .i64 0, .slice none 0 0, .int .i64 0, .int .i64 0, .slice none 0 0].toArray 77)) (w.heap.size + 1) _ 77 (by simp)
  have HR2 : Hid (Bx ((w.alloc (.cells [.int .i64 0, .int .i64 0, .int .i64 0, .slice none 0 0, .int .i64 0, .int .i64 0, .slice none 0 0].toArray 77)).alloc (.cells [.int .i64 1, .int .i64 i, .int .i64 0, .slice none 0 0, .int .i64 0, .int .i64 0, .slice none 0 0].toArray 77)) w.heap.size [.int .i64 0, .int .i64 0, .int .i64 0, .slice none 0 0, .int .i64 0, .int .i64 0, .slice none 0 0]) := (Bx.new w w.heap.size _ 77 rfl).below (bl_a _)
  have e0c : bs[i]? = (bs.drop i)[0]? := by rw [List.getElem?_drop]; rfl
  have hcc : c = 34 := by
    rw [e0c, hd] at hch
    exact Option.some.inj hch
  subst hcc
  clear e0c hch
  have CT : Hid (Calls Tryz.prog 124 #[.slice (some ⟨b0, off0, none⟩) len cap, .int .i64 i] ((w.alloc (.cells [.int .i64 0, .int .i64 0, .int .i64 0, .slice none 0 0, .int .i64 0, .int .i64 0, .slice none 0 0].toArray 77)).alloc (.cells [.int .i64 1, .int .i64 i, .int .i64 0, .slice none 0 0, .int .i64 0, .int .i64 0, .slice none 0 0].toArray 77)) (TokA (tokOf (bs.drop i)) i ((w.alloc (.cells [.int .i64 0, .int .i64 0, .int .i64 0, .slice none 0 0, .int .i64 0, .int .i64 0, .slice none 0 0].toArray 77)).alloc (.cells [.int .i64 1, .int .i64 i, .int .i64 0, .slice none 0 0, .int .i64 0, .int .i64 0, .slice none 0 0].toArray 77)))) := l2quoted_any _ len cap bs i _ (hB.below HW2.out) hl3 hi hd
  clear hB hd hc
  go_enter Tryz.func81, Tryz.ntmps81
  go_wp2_with fail
  refine CT.out.mono ?_
  rintro e w3 ⟨⟨m, en, rfl, hl, hor⟩, hb3⟩
  have HOR : Hid _ := hor
  have HL : Hid (m.lies w3) := hl
  have HW3 : Hid (Below w.heap.size w w3) := HW2.out.trans (hb3.mono HW2.out.size)
  have HR3 : Hid (Bx w3 w.heap.size [.int .i64 0, .int .i64 0, .int .i64 0, .slice none 0 0, .int .i64 0, .int .i64 0, .slice none 0 0]) := HR2.out.below hb3
  obtain ⟨y0, y1, y2, y3, y4, y5, y6⟩ := bx7 HR3.out
  obtain ⟨e0, e1, e2, e3, e4, e5, e6⟩ := bx7f HR3.out
  simp only [eM]
  clear hl hor hb3 CT
  go_wp2_with fail
  have hF := fin7 (m := m) (rb := w.heap.size) (Nat.le_refl _) HR3.out HL.out HW3.out
  refine bodyPost_ret (v := .tuple #[.agg #[.int .i64 m.kind, .int .i64 m.p, .int .i64 m.t.k, .slice m.t.a m.t.len m.t.cap, .int .i64 m.t.n, .int .i64 m.t.s, .slice m.xa m.xl m.xc], .int .i64 en]) (by simp [results, Tryz.results81, go_sem, *]) rfl ⟨⟨m, en, rfl, hF.1, HOR.out⟩, hF.2⟩
end Go.Proofs.YtoclingolfdfeaaGreatDoor
