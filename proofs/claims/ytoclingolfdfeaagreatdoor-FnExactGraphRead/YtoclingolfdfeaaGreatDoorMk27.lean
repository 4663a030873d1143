/- Texts put together: LxJ0 LxJ1 -/
import Derived.Test.YtoclingolfdfeaaGreatDoorMk23
/- LxJ0 -/
namespace Go.Proofs.YtoclingolfdfeaaGreatDoor
open Go.RowKit Go.Deep
set_option maxRecDepth 100000

set_option maxHeartbeats 16000000 in
theorem l2one_digit (b0 off0 len cap : Nat) (bs : List Int) (i : Nat) (w : World) (hB : Bs w (some ⟨b0, off0, none⟩) len bs) (hl3 : len ≤ 100000) (hcap : len ≤ cap) (hi : i < len) {d : Int} (h48 : bs[i]? = some d ∧ 48 ≤ d ∧ d ≤ 57) :
    Calls Tryz.prog 81 #[.slice (some ⟨b0, off0, none⟩) len cap, .int .i64 i] w (TokA (tokOf (bs.drop i)) i w) := by
  have HB : Hid (Bs w (some ⟨b0, off0, none⟩) len bs) := hB
  have HN : Hid (bs.length = len) := hB.1
  obtain ⟨b0', off0', c, e0, hc, hd, c0, c1⟩ := hB.byte hi
  cases e0
  have HD : Hid (bs.drop i = c :: bs.drop (i + 1)) := hd
  have hiz : (i : Int) < (len : Int) := by omega
  have hic : i ≤ cap := by omega
  have hicn : ¬ cap = i := by omega
  have hc1 : (w.alloc (.cells [.int .i64 0, .int .i64 0, .int .i64 0, .slice none 0 0, .int .i64 0, .int .i64 0, .slice none 0 0].toArray 77)).cell? ⟨b0, off0 + i, none⟩ = some (.int .u8 c) := ((bl_a (w := w) _).cell (p := ⟨b0, off0 + i, none⟩) (cell_ltC hc)).trans hc
  have HW2 : Hid (Below w.heap.size w ((w.alloc (.cells [.int .i64 0, .int .i64 0, .int .i64 0, .slice none 0 0, .int .i64 0, .int .i64 0, .slice none 0 0].toArray 77)).alloc (.cells [.int .i64 1, .int .i64 i, .int .i64 0, .slice none 0 0, .int .i64 0, .int .i64 0, .slice none 0 0].toArray 77))) := bl_alloc (bl_a _) _
  have HX2 : Hid (Bx ((w.alloc (.cells [.int .i64 0, .int .i64 0, .int .i64 0, .slice none 0 0, .int .i64 0, .int .i64 0, .slice none 0 0].toArray 77)).alloc (.cells [.int .i64 1, .int .i64 i, .int .i64 0, .slice none 0 0, .int .i64 0, .int .i64 0, .slice none 0 0].toArray 77)) (w.heap.size + 1) [.int .i64 1, .int .i64 i, .int .i64 0, .slice none 0 0, .int .i64 0, .int .i64 0, .slice none 0 0]) := Bx.new (w.alloc (.cells [.int .i64 0, .int .i64 0, .int .i64 0, .slice none 0 0, .int .i64 0, .int .i64 0, .slice none 0 0].toArray 77)) (w.heap.size + 1) _ 77 (by simp)
  have HR2 : Hid (Bx ((w.alloc (.cells [.int .i64 0, .int .i64 0, .int .i64 0, .slice none 0 0, .int .i64 0, .int .i64 0, .slice none 0 0].toArray 77)).alloc (.cells [.int .i64 1, .int .i64 i, .int .i64 0, .slice none 0 0, .int .i64 0, .int .i64 0, .slice none 0 0].toArray 77)) w.heap.size [.int .i64 0, .int .i64 0, .int .i64 0, .slice none 0 0, .int .i64 0, .int .i64 0, .slice none 0 0]) := (Bx.new w w.heap.size _ 77 rfl).below (bl_a _)
  have hcd : c = d := by
    have h := h48.1
    have e : bs[i]? = (bs.drop i)[0]? := by rw [List.getElem?_drop]; rfl
    rw [e, hd] at h
    exact Option.some.inj h
  have h1 : 48 ≤ c := by omega
  have h2 : c ≤ 57 := by omega
  clear h48 hcd
  have HTK : Hid (tokOf (bs.drop i) = (numOf (c :: (bs.drop (i + 1)).take (pieceLen (bs.drop (i + 1))))).map fun p => ⟨0, c :: (bs.drop (i + 1)).take (pieceLen (bs.drop (i + 1))), ⟨3, [], p.1, p.2⟩⟩) := by
    show _ = _
    rw [hd]
    exact tok_num (by simp [digit, h1, h2])
  have EN : Calls Tryz.prog 122 #[.slice (some ⟨b0, off0, none⟩) len cap, .int .i64 ((i : Int) + 1)] ((w.alloc (.cells [.int .i64 0, .int .i64 0, .int .i64 0, .slice none 0 0, .int .i64 0, .int .i64 0, .slice none 0 0].toArray 77)).alloc (.cells [.int .i64 1, .int .i64 i, .int .i64 0, .slice none 0 0, .int .i64 0, .int .i64 0, .slice none 0 0].toArray 77)) fun e w' => e = .returned (.int .i64 ((i + 1 + pieceLen (bs.drop (i + 1)) : Nat) : Int)) ∧ w' = ((w.alloc (.cells [.int .i64 0, .int .i64 0, .int .i64 0, .slice none 0 0, .int .i64 0, .int .i64 0, .slice none 0 0].toArray 77)).alloc (.cells [.int .i64 1, .int .i64 i, .int .i64 0, .slice none 0 0, .int .i64 0, .int .i64 0, .slice none 0 0].toArray 77)) := l2end_any _ len cap bs (i + 1) _ (hB.below HW2.out) (by omega)
  clear hB hd hc
  go_enter Tryz.func81, Tryz.ntmps81
  go_wp2_with fail
  refine EN.mono ?_
  rintro e w2 ⟨rfl, hw2⟩
  clear EN hc1
  rw [← hw2] at HW2 HX2 HR2
  clear hw2
  obtain ⟨E, hE⟩ : ∃ E, i + 1 + pieceLen (bs.drop (i + 1)) = E := ⟨_, rfl⟩
  have hEl := piece_len HN.out (show i + 1 ≤ len by omega) hE
  have HRW : Hid ((bs.drop i).take (E - i) = c :: (bs.drop (i + 1)).take (pieceLen (bs.drop (i + 1)))) := piece_raw HD.out hE
  rw [hE]
  clear hE
  have hE1 : (i : Int) ≤ (E : Int) := by omega
  have hE2 : (E : Int) ≤ (cap : Int) := by omega
  have NU := l2number_any (some ⟨b0, off0 + i, none⟩) (E - i) (cap - i) _ w2 ((HB.out.piece (show i ≤ E by omega) (by omega)).below HW2.out)
  go_wp2_with fail
  refine NU.mono ?_
  rintro e w3 ⟨hor, hb3⟩
  clear NU
  have HW3 : Hid (Below w.heap.size w w3) := HW2.out.trans (hb3.mono HW2.out.size)
  have HX3 : Hid (Bx w3 (w.heap.size + 1) [.int .i64 1, .int .i64 i, .int .i64 0, .slice none 0 0, .int .i64 0, .int .i64 0, .slice none 0 0]) := HX2.out.below hb3
  have HR3 : Hid (Bx w3 w.heap.size [.int .i64 0, .int .i64 0, .int .i64 0, .slice none 0 0, .int .i64 0, .int .i64 0, .slice none 0 0]) := HR2.out.below hb3
  clear HW2 HX2 HR2 hb3
  rcases hor with ⟨n, s, hno, rfl⟩ | ⟨hno, rfl⟩
  · rw [HRW.out] at hno
    have hnk := (numOf_some.1 hno).1
    have hl := num_fits hnk
    have HTT : Hid (∃ t, tokOf (bs.drop i) = some t ∧ (⟨1, i, ⟨3, none, 0, 0, n, s⟩, [], none, 0, 0, []⟩ : MT).is i t ∧ (E : Int) = ((i + t.raw.length : Nat) : Int)) := by
      refine ⟨⟨0, c :: (bs.drop (i + 1)).take (pieceLen (bs.drop (i + 1))), ⟨3, [], n, s⟩⟩, ?_, ⟨rfl, rfl, fun _ => rfl, rfl⟩, ?_⟩
      · rw [HTK.out, hno]
        rfl
      · have h := congrArg List.length HRW.out
        rw [List.length_take, List.length_drop] at h
        have := HN.out
        show (E : Int) = ((i + (c :: (bs.drop (i + 1)).take (pieceLen (bs.drop (i + 1)))).length : Nat) : Int)
        omega
    clear hno hnk HRW HTK
    have HX4 : Hid (Bx (w3.alloc (.cells #[.int .i64 3, .slice none 0 0, .int .i64 n, .int .i64 s] 24)) (w.heap.size + 1) [.int .i64 1, .int .i64 i, .int .i64 0, .slice none 0 0, .int .i64 0, .int .i64 0, .slice none 0 0]) := HX3.out.below (bl_a _)
    have HR4 : Hid (Bx (w3.alloc (.cells #[.int .i64 3, .slice none 0 0, .int .i64 n, .int .i64 s] 24)) w.heap.size [.int .i64 0, .int .i64 0, .int .i64 0, .slice none 0 0, .int .i64 0, .int .i64 0, .slice none 0 0]) := HR3.out.below (bl_a _)
    have HW4 : Hid (Below w.heap.size w (w3.alloc (.cells #[.int .i64 3, .slice none 0 0, .int .i64 n, .int .i64 s] 24))) := bl_trans HW3.out (bl_a _)
    obtain ⟨t0, t1, t2, t3, t4⟩ := At4.new w3 (.int .i64 3) (.slice none 0 0) (.int .i64 n) (.int .i64 s) 24
    obtain ⟨z0, z1, z2, z3, z4, z5, z6⟩ := bx7 HX4.out
    obtain ⟨y0, y1, y2, y3, y4, y5, y6⟩ := bx7 HR4.out
    obtain ⟨e0, e1, e2, e3, e4, e5, e6⟩ := bx7f HR4.out
    obtain ⟨f0, f1, f2, f3, f4, f5, f6⟩ := bx7f HX4.out
    go_wp2_with fail
    have hF := fin7 (m := ⟨1, i, ⟨3, none, 0, 0, n, s⟩, [], none, 0, 0, []⟩) (rb := w.heap.size) (Nat.le_refl _) ((((HR4.out.other 2 (.int .i64 3) (c := w.heap.size + 1) (by omega)).other 3 (.slice none 0 0) (c := w.heap.size + 1) (by omega)).other 4 (.int .i64 n) (c := w.heap.size + 1) (by omega)).other 5 (.int .i64 s) (c := w.heap.size + 1) (by omega)) ⟨Bs0.nil _ _, Bs0.nil _ _, hl⟩ ((((HW4.out.setCell (p := ⟨w.heap.size + 1, 2, none⟩) (by show w.heap.size ≤ w.heap.size + 1; omega) (.int .i64 3)).setCell (p := ⟨w.heap.size + 1, 3, none⟩) (by show w.heap.size ≤ w.heap.size + 1; omega) (.slice none 0 0)).setCell (p := ⟨w.heap.size + 1, 4, none⟩) (by show w.heap.size ≤ w.heap.size + 1; omega) (.int .i64 n)).setCell (p := ⟨w.heap.size + 1, 5, none⟩) (by show w.heap.size ≤ w.heap.size + 1; omega) (.int .i64 s))
    refine bodyPost_ret (v := .tuple #[.agg #[.int .i64 1, .int .i64 i, .int .i64 3, .slice none 0 0, .int .i64 n, .int .i64 s, .slice none 0 0], .int .i64 E]) (by simp [results, Tryz.results81, go_sem, *]) rfl ⟨⟨⟨1, i, ⟨3, none, 0, 0, n, s⟩, [], none, 0, 0, []⟩, _, rfl, hF.1, .inl HTT.out⟩, hF.2⟩
  · rw [HRW.out] at hno
    have HNO : Hid (tokOf (bs.drop i) = none) := by
      show _ = _
      rw [HTK.out, hno]
      rfl
    clear hno HRW HTK
    have HX4 : Hid (Bx (w3.alloc (.cells #[.int .i64 0, .slice none 0 0, .int .i64 0, .int .i64 0] 24)) (w.heap.size + 1) [.int .i64 1, .int .i64 i, .int .i64 0, .slice none 0 0, .int .i64 0, .int .i64 0, .slice none 0 0]) := HX3.out.below (bl_a _)
    have HR4 : Hid (Bx (w3.alloc (.cells #[.int .i64 0, .slice none 0 0, .int .i64 0, .int .i64 0] 24)) w.heap.size [.int .i64 0, .int .i64 0, .int .i64 0, .slice none 0 0, .int .i64 0, .int .i64 0, .slice none 0 0]) := HR3.out.below (bl_a _)
    have HW4 : Hid (Below w.heap.size w (w3.alloc (.cells #[.int .i64 0, .slice none 0 0, .int .i64 0, .int .i64 0] 24))) := bl_trans HW3.out (bl_a _)
    obtain ⟨z0, z1, z2, z3, z4, z5, z6⟩ := bx7 HX4.out
    obtain ⟨y0, y1, y2, y3, y4, y5, y6⟩ := bx7 HR4.out
    obtain ⟨e0, e1, e2, e3, e4, e5, e6⟩ := bx7f HR4.out
    obtain ⟨f0, f1, f2, f3, f4, f5, f6⟩ := bx7f HX4.out
    go_wp2_with fail
    have hF := fin7 (m := ⟨1, i, ⟨0, none, 0, 0, 0, 0⟩, [], none, 0, 0, []⟩) (rb := w.heap.size) (Nat.le_refl _) HR4.out ⟨Bs0.nil _ _, Bs0.nil _ _, fits0 _ _ _ _⟩ HW4.out
    refine bodyPost_ret (v := .tuple #[.agg #[.int .i64 1, .int .i64 i, .int .i64 0, .slice none 0 0, .int .i64 0, .int .i64 0, .slice none 0 0], .int .i64 (-1)]) (by simp [results, Tryz.results81, go_sem, *]) rfl ⟨⟨⟨1, i, ⟨0, none, 0, 0, 0, 0⟩, [], none, 0, 0, []⟩, _, rfl, hF.1, .inr ⟨HNO.out, rfl⟩⟩, hF.2⟩
end Go.Proofs.YtoclingolfdfeaaGreatDoor

/- LxJ1 -/
namespace Go.Proofs.YtoclingolfdfeaaGreatDoor
open Go.RowKit Go.Deep
set_option maxRecDepth 100000

set_option maxHeartbeats 16000000 in
theorem l2one_minus (b0 off0 len cap : Nat) (bs : List Int) (i : Nat) (w : World) (hB : Bs w (some ⟨b0, off0, none⟩) len bs) (hl3 : len ≤ 100000) (hcap : len ≤ cap) (hi : i < len) (h45 : bs[i]? = some 45) (hdg : digitHd (bs.drop (i + 1)) = true) :
    Calls Tryz.prog 81 #[.slice (some ⟨b0, off0, none⟩) len cap, .int .i64 i] w (TokA (tokOf (bs.drop i)) i w) := by
  have HB : Hid (Bs w (some ⟨b0, off0, none⟩) len bs) := hB
  have HN : Hid (bs.length = len) := hB.1
  obtain ⟨b0', off0', c, e0, hc, hd, c0, c1⟩ := hB.byte hi
  cases e0
  have HD : Hid (bs.drop i = c :: bs.drop (i + 1)) := hd
  have hiz : (i : Int) < (len : Int) := by omega
  have hic : i ≤ cap := by omega
  have hicn : ¬ cap = i := by omega
  have hc1 : (w.alloc (.cells [.int .i64 0, .int .i64 0, .int .i64 0, .slice none 0 0, .int .i64 0, .int .i64 0, .slice none 0 0].toArray 77)).cell? ⟨b0, off0 + i, none⟩ = some (.int .u8 c) := ((bl_a (w := w) _).cell (p := ⟨b0, off0 + i, none⟩) (cell_ltC hc)).trans hc
  have HW2 : Hid (Below w.heap.size w ((w.alloc (.cells [.int .i64 0, .int .i64 0, .int .i64 0, .slice none 0 0, .int .i64 0, .int .i64 0, .slice none 0 0].toArray 77)).alloc (.cells [.int .i64 1, .int .i64 i, .int .i64 0, .slice none 0 0, .int .i64 0, .int .i64 0, .slice none 0 0].toArray 77))) := bl_alloc (bl_a _) _
  have HX2 : Hid (Bx ((w.alloc (.cells [.int .i64 0, .int .i64 0, .int .i64 0, .slice none 0 0, .int .i64 0, .int .i64 0, .slice none 0 0].toArray 77)).alloc (.cells [.int .i64 1, .int .i64 i, .int .i64 0, .slice none 0 0, .int .i64 0, .int .i64 0, .slice none 0 0].toArray 77)) (w.heap.size + 1) [.int .i64 1, .int .i64 i, .int .i64 0, .slice none 0 0, .int .i64 0, .int .i64 0, .slice none 0 0]) := Bx.new (w.alloc (.cells [.int .i64 0, .int .i64 0, .int .i64 0, .slice none 0 0, .int .i64 0, .int .i64 0, .slice none 0 0].toArray 77)) (w.heap.size + 1) _ 77 (by simp)
  have HR2 : Hid (Bx ((w.alloc (.cells [.int .i64 0, .int .i64 0, .int .i64 0, .slice none 0 0, .int .i64 0, .int .i64 0, .slice none 0 0].toArray 77)).alloc (.cells [.int .i64 1, .int .i64 i, .int .i64 0, .slice none 0 0, .int .i64 0, .int .i64 0, .slice none 0 0].toArray 77)) w.heap.size [.int .i64 0, .int .i64 0, .int .i64 0, .slice none 0 0, .int .i64 0, .int .i64 0, .slice none 0 0]) := (Bx.new w w.heap.size _ 77 rfl).below (bl_a _)
  have hc45 : c = 45 := by
    have e : bs[i]? = (bs.drop i)[0]? := by rw [List.getElem?_drop]; rfl
    rw [e, hd] at h45
    exact Option.some.inj h45
  subst hc45
  have hi1 : i + 1 < len := by
    apply Nat.lt_of_not_le
    intro h
    rw [List.drop_eq_nil_of_le (by rw [hB.1]; exact h)] at hdg
    cases hdg
  obtain ⟨b1', off1', y, e1, hy, hdy, y0, y1⟩ := hB.byte hi1
  cases e1
  have hyd : 48 ≤ y ∧ y ≤ 57 := by
    rw [hdy] at hdg
    simpa [digitHd, digit] using hdg
  obtain ⟨hy48, hy57⟩ := hyd
  have hy2 : ((w.alloc (.cells [.int .i64 0, .int .i64 0, .int .i64 0, .slice none 0 0, .int .i64 0, .int .i64 0, .slice none 0 0].toArray 77)).alloc (.cells [.int .i64 1, .int .i64 i, .int .i64 0, .slice none 0 0, .int .i64 0, .int .i64 0, .slice none 0 0].toArray 77)).cell? ⟨b0, off0 + (i + 1), none⟩ = some (.int .u8 y) := (HW2.out.cell (p := ⟨b0, off0 + (i + 1), none⟩) (cell_ltC hy)).trans hy
  have hi1z : (i : Int) + 1 < (len : Int) := by omega
  have hi0z : (0 : Int) ≤ (i : Int) + 1 := by omega
  have HDG : Hid (digitHd (bs.drop (i + 1)) = true) := hdg
  clear h45 hdg hdy hy y0 y1
  have HTK : Hid (tokOf (bs.drop i) = (numOf (45 :: (bs.drop (i + 1)).take (pieceLen (bs.drop (i + 1))))).map fun p => ⟨0, 45 :: (bs.drop (i + 1)).take (pieceLen (bs.drop (i + 1))), ⟨3, [], p.1, p.2⟩⟩) := by
    show _ = _
    rw [hd]
    exact tok_num (by rw [HDG.out]; decide)
  have EN : Calls Tryz.prog 122 #[.slice (some ⟨b0, off0, none⟩) len cap, .int .i64 ((i : Int) + 1)] ((w.alloc (.cells [.int .i64 0, .int .i64 0, .int .i64 0, .slice none 0 0, .int .i64 0, .int .i64 0, .slice none 0 0].toArray 77)).alloc (.cells [.int .i64 1, .int .i64 i, .int .i64 0, .slice none 0 0, .int .i64 0, .int .i64 0, .slice none 0 0].toArray 77)) fun e w' => e = .returned (.int .i64 ((i + 1 + pieceLen (bs.drop (i + 1)) : Nat) : Int)) ∧ w' = ((w.alloc (.cells [.int .i64 0, .int .i64 0, .int .i64 0, .slice none 0 0, .int .i64 0, .int .i64 0, .slice none 0 0].toArray 77)).alloc (.cells [.int .i64 1, .int .i64 i, .int .i64 0, .slice none 0 0, .int .i64 0, .int .i64 0, .slice none 0 0].toArray 77)) := l2end_any _ len cap bs (i + 1) _ (hB.below HW2.out) (by omega)
  clear hB hd hc
  go_enter Tryz.func81, Tryz.ntmps81
  go_wp2_with fail
  refine EN.mono ?_
  rintro e w2 ⟨rfl, hw2⟩
  clear EN hc1 hy2
  rw [← hw2] at HW2 HX2 HR2
  clear hw2
  obtain ⟨E, hE⟩ : ∃ E, i + 1 + pieceLen (bs.drop (i + 1)) = E := ⟨_, rfl⟩
  have hEl := piece_len HN.out (show i + 1 ≤ len by omega) hE
  have HRW : Hid ((bs.drop i).take (E - i) = 45 :: (bs.drop (i + 1)).take (pieceLen (bs.drop (i + 1)))) := piece_raw HD.out hE
  rw [hE]
  clear hE
  have hE1 : (i : Int) ≤ (E : Int) := by omega
  have hE2 : (E : Int) ≤ (cap : Int) := by omega
  have NU := l2number_any (some ⟨b0, off0 + i, none⟩) (E - i) (cap - i) _ w2 ((HB.out.piece (show i ≤ E by omega) (by omega)).below HW2.out)
  go_wp2_with fail
  refine NU.mono ?_
  rintro e w3 ⟨hor, hb3⟩
  clear NU
  have HW3 : Hid (Below w.heap.size w w3) := HW2.out.trans (hb3.mono HW2.out.size)
  have HX3 : Hid (Bx w3 (w.heap.size + 1) [.int .i64 1, .int .i64 i, .int .i64 0, .slice none 0 0, .int .i64 0, .int .i64 0, .slice none 0 0]) := HX2.out.below hb3
  have HR3 : Hid (Bx w3 w.heap.size [.int .i64 0, .int .i64 0, .int .i64 0, .slice none 0 0, .int .i64 0, .int .i64 0, .slice none 0 0]) := HR2.out.below hb3
  clear HW2 HX2 HR2 hb3
  rcases hor with ⟨n, s, hno, rfl⟩ | ⟨hno, rfl⟩
  · rw [HRW.out] at hno
    have hnk := (numOf_some.1 hno).1
    have hl := num_fits hnk
    have HTT : Hid (∃ t, tokOf (bs.drop i) = some t ∧ (⟨1, i, ⟨3, none, 0, 0, n, s⟩, [], none, 0, 0, []⟩ : MT).is i t ∧ (E : Int) = ((i + t.raw.length : Nat) : Int)) := by
      refine ⟨⟨0, 45 :: (bs.drop (i + 1)).take (pieceLen (bs.drop (i + 1))), ⟨3, [], n, s⟩⟩, ?_, ⟨rfl, rfl, fun _ => rfl, rfl⟩, ?_⟩
      · rw [HTK.out, hno]
        rfl
      · have h := congrArg List.length HRW.out
        rw [List.length_take, List.length_drop] at h
        have := HN.out
        show (E : Int) = ((i + (45 :: (bs.drop (i + 1)).take (pieceLen (bs.drop (i + 1)))).length : Nat) : Int)
        omega
    clear hno hnk HRW HTK
    have HX4 : Hid (Bx (w3.alloc (.cells #[.int .i64 3, .slice none 0 0, .int .i64 n, .int .i64 s] 24)) (w.heap.size + 1) [.int .i64 1, .int .i64 i, .int .i64 0, .slice none 0 0, .int .i64 0, .int .i64 0, .slice none 0 0]) := HX3.out.below (bl_a _)
    have HR4 : Hid (Bx (w3.alloc (.cells #[.int .i64 3, .slice none 0 0, .int .i64 n, .int .i64 s] 24)) w.heap.size [.int .i64 0, .int .i64 0, .int .i64 0, .slice none 0 0, .int .i64 0, .int .i64 0, .slice none 0 0]) := HR3.out.below (bl_a _)
    have HW4 : Hid (Below w.heap.size w (w3.alloc (.cells #[.int .i64 3, .slice none 0 0, .int .i64 n, .int .i64 s] 24))) := bl_trans HW3.out (bl_a _)
    obtain ⟨t0, t1, t2, t3, t4⟩ := At4.new w3 (.int .i64 3) (.slice none 0 0) (.int .i64 n) (.int .i64 s) 24
    obtain ⟨z0, z1, z2, z3, z4, z5, z6⟩ := bx7 HX4.out
    obtain ⟨y0, y1, y2, y3, y4, y5, y6⟩ := bx7 HR4.out
    obtain ⟨e0, e1, e2, e3, e4, e5, e6⟩ := bx7f HR4.out
    obtain ⟨f0, f1, f2, f3, f4, f5, f6⟩ := bx7f HX4.out
    go_wp2_with fail
    have hF := fin7 (m := ⟨1, i, ⟨3, none, 0, 0, n, s⟩, [], none, 0, 0, []⟩) (rb := w.heap.size) (Nat.le_refl _) ((((HR4.out.other 2 (.int .i64 3) (c := w.heap.size + 1) (by omega)).other 3 (.slice none 0 0) (c := w.heap.size + 1) (by omega)).other 4 (.int .i64 n) (c := w.heap.size + 1) (by omega)).other 5 (.int .i64 s) (c := w.heap.size + 1) (by omega)) ⟨Bs0.nil _ _, Bs0.nil _ _, hl⟩ ((((HW4.out.setCell (p := ⟨w.heap.size + 1, 2, none⟩) (by show w.heap.size ≤ w.heap.size + 1; omega) (.int .i64 3)).setCell (p := ⟨w.heap.size + 1, 3, none⟩) (by show w.heap.size ≤ w.heap.size + 1; omega) (.slice none 0 0)).setCell (p := ⟨w.heap.size + 1, 4, none⟩) (by show w.heap.size ≤ w.heap.size + 1; omega) (.int .i64 n)).setCell (p := ⟨w.heap.size + 1, 5, none⟩) (by show w.heap.size ≤ w.heap.size + 1; omega) (.int .i64 s))
    refine bodyPost_ret (v := .tuple #[.agg #[.int .i64 1, .int .i64 i, .int .i64 3, .slice none 0 0, .int .i64 n, .int .i64 s, .slice none 0 0], .int .i64 E]) (by simp [results, Tryz.results81, go_sem, *]) rfl ⟨⟨⟨1, i, ⟨3, none, 0, 0, n, s⟩, [], none, 0, 0, []⟩, _, rfl, hF.1, .inl HTT.out⟩, hF.2⟩
  · rw [HRW.out] at hno
    have HNO : Hid (tokOf (bs.drop i) = none) := by
      show _ = _
      rw [HTK.out, hno]
      rfl
    clear hno HRW HTK
    have HX4 : Hid (Bx (w3.alloc (.cells #[.int .i64 0, .slice none 0 0, .int .i64 0, .int .i64 0] 24)) (w.heap.size + 1) [.int .i64 1, .int .i64 i, .int .i64 0, .slice none 0 0, .int .i64 0, .int .i64 0, .slice none 0 0]) := HX3.out.below (bl_a _)
    have HR4 : Hid (Bx (w3.alloc (.cells #[.int .i64 0, .slice none 0 0, .int .i64 0, .int .i64 0] 24)) w.heap.size [.int .i64 0, .int .i64 0, .int .i64 0, .slice none 0 0, .int .i64 0, .int .i64 0, .slice none 0 0]) := HR3.out.below (bl_a _)
    have HW4 : Hid (Below w.heap.size w (w3.alloc (.cells #[.int .i64 0, .slice none 0 0, .int .i64 0, .int .i64 0] 24))) := bl_trans HW3.out (bl_a _)
    obtain ⟨z0, z1, z2, z3, z4, z5, z6⟩ := bx7 HX4.out
    obtain ⟨y0, y1, y2, y3, y4, y5, y6⟩ := bx7 HR4.out
    obtain ⟨e0, e1, e2, e3, e4, e5, e6⟩ := bx7f HR4.out
    obtain ⟨f0, f1, f2, f3, f4, f5, f6⟩ := bx7f HX4.out
    go_wp2_with fail
    have hF := fin7 (m := ⟨1, i, ⟨0, none, 0, 0, 0, 0⟩, [], none, 0, 0, []⟩) (rb := w.heap.size) (Nat.le_refl _) HR4.out ⟨Bs0.nil _ _, Bs0.nil _ _, fits0 _ _ _ _⟩ HW4.out
    refine bodyPost_ret (v := .tuple #[.agg #[.int .i64 1, .int .i64 i, .int .i64 0, .slice none 0 0, .int .i64 0, .int .i64 0, .slice none 0 0], .int .i64 (-1)]) (by simp [results, Tryz.results81, go_sem, *]) rfl ⟨⟨⟨1, i, ⟨0, none, 0, 0, 0, 0⟩, [], none, 0, 0, []⟩, _, rfl, hF.1, .inr ⟨HNO.out, rfl⟩⟩, hF.2⟩
end Go.Proofs.YtoclingolfdfeaaGreatDoor
