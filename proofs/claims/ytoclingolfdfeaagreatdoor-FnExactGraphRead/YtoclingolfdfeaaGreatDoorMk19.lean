/- Texts put together: LxG -/
import Derived.Test.YtoclingolfdfeaaGreatDoorMk18
/- LxG -/
namespace Go.Proofs.YtoclingolfdfeaaGreatDoor
open Go.RowKit Go.Deep
set_option maxRecDepth 100000

theorem bx7 {w : World} {b : Nat} {v0 v1 v2 v3 v4 v5 v6 : Value} (h : Bx w b [v0, v1, v2, v3, v4, v5, v6]) : w.cell? ⟨b, 0, none⟩ = some v0 ∧ w.cell? ⟨b, 1, none⟩ = some v1 ∧ w.cell? ⟨b, 2, none⟩ = some v2 ∧ w.cell? ⟨b, 3, none⟩ = some v3 ∧ w.cell? ⟨b, 4, none⟩ = some v4 ∧ w.cell? ⟨b, 5, none⟩ = some v5 ∧ w.cell? ⟨b, 6, none⟩ = some v6 :=
  ⟨h.c 0 _ rfl, h.c 1 _ rfl, h.c 2 _ rfl, h.c 3 _ rfl, h.c 4 _ rfl, h.c 5 _ rfl, h.c 6 _ rfl⟩
theorem bx7f {w : World} {b : Nat} {v0 v1 v2 v3 v4 v5 v6 : Value} (h : Bx w b [v0, v1, v2, v3, v4, v5, v6]) : w.frozen? ⟨b, 0, none⟩ = false ∧ w.frozen? ⟨b, 1, none⟩ = false ∧ w.frozen? ⟨b, 2, none⟩ = false ∧ w.frozen? ⟨b, 3, none⟩ = false ∧ w.frozen? ⟨b, 4, none⟩ = false ∧ w.frozen? ⟨b, 5, none⟩ = false ∧ w.frozen? ⟨b, 6, none⟩ = false :=
  ⟨h.f 0 (by simp), h.f 1 (by simp), h.f 2 (by simp), h.f 3 (by simp), h.f 4 (by simp), h.f 5 (by simp), h.f 6 (by simp)⟩
/-- The end of a call that answers a token: it is laid into the result's box. -/
theorem fin7 {w W : World} {rb : Nat} {m : MT} {k : Int} {v1 v2 v3 v4 v5 v6 : Value} (hr : w.heap.size ≤ rb) (hb : Bx W rb [.int .i64 k, v1, v2, v3, v4, v5, v6]) (hl : m.lies W) (hB : Below w.heap.size w W) :
    m.lies (((((((W.setCell ⟨rb, 0, none⟩ (.int .i64 m.kind)).setCell ⟨rb, 1, none⟩ (.int .i64 m.p)).setCell ⟨rb, 2, none⟩ (.int .i64 m.t.k)).setCell ⟨rb, 3, none⟩ (.slice m.t.a m.t.len m.t.cap)).setCell ⟨rb, 4, none⟩ (.int .i64 m.t.n)).setCell ⟨rb, 5, none⟩ (.int .i64 m.t.s)).setCell ⟨rb, 6, none⟩ (.slice m.xa m.xl m.xc)) ∧
    Below w.heap.size w (((((((W.setCell ⟨rb, 0, none⟩ (.int .i64 m.kind)).setCell ⟨rb, 1, none⟩ (.int .i64 m.p)).setCell ⟨rb, 2, none⟩ (.int .i64 m.t.k)).setCell ⟨rb, 3, none⟩ (.slice m.t.a m.t.len m.t.cap)).setCell ⟨rb, 4, none⟩ (.int .i64 m.t.n)).setCell ⟨rb, 5, none⟩ (.int .i64 m.t.s)).setCell ⟨rb, 6, none⟩ (.slice m.xa m.xl m.xc)) := by
  have b1 := hb.set 0 (.int .i64 m.kind) (by simp)
  have b2 := b1.set 1 (.int .i64 m.p) (by simp)
  have b3 := b2.set 2 (.int .i64 m.t.k) (by simp)
  have b4 := b3.set 3 (.slice m.t.a m.t.len m.t.cap) (by simp)
  have b5 := b4.set 4 (.int .i64 m.t.n) (by simp)
  have b6 := b5.set 5 (.int .i64 m.t.s) (by simp)
  refine ⟨((((((hl.set (hb.c 0 _ rfl) (not_u8 _) 0 _).set (b1.c 0 _ rfl) (not_u8 _) 1 _).set (b2.c 0 _ rfl) (not_u8 _) 2 _).set (b3.c 0 _ rfl) (not_u8 _) 3 _).set (b4.c 0 _ rfl) (not_u8 _) 4 _).set (b5.c 0 _ rfl) (not_u8 _) 5 _).set (b6.c 0 _ rfl) (not_u8 _) 6 _, ?_⟩
  exact (((((((hB.setCell (p := ⟨rb, 0, none⟩) hr _).setCell (p := ⟨rb, 1, none⟩) hr _).setCell (p := ⟨rb, 2, none⟩) hr _).setCell (p := ⟨rb, 3, none⟩) hr _).setCell (p := ⟨rb, 4, none⟩) hr _).setCell (p := ⟨rb, 5, none⟩) hr _).setCell (p := ⟨rb, 6, none⟩) hr _)
theorem fits0 (k : Int) (a : Option Addr) (l c : Nat) : (⟨k, a, l, c, 0, 0⟩ : Tm).fits := ⟨by show (_ : Int) ≤ 0; omega, by show (0 : Int) ≤ _; omega, by show (_ : Int) ≤ 0; omega, by show (0 : Int) ≤ _; omega⟩
theorem tok_quote (r : List Int) : tokOf (34 :: r) = (quoteF false r).bind fun p => if textOk p.1 = true then some ⟨0, 34 :: r.take p.2, ⟨2, p.1, 0, 0⟩⟩ else none := by
  simp [tokOf, digit]
/-- Where a text stands: what is left of it. -/
def qMap (us : List Int) (k : Nat) (x : Option (List Int × Nat)) : Option (List Int × Nat) := x.map fun p => (us ++ p.1, k + p.2)
theorem q_end {us r : List Int} {k : Nat} : qMap us k (quoteF false (34 :: r)) = some (us, k + 1) := by simp [qMap, quoteF]
theorem q_nil {us : List Int} {k : Nat} : qMap us k (quoteF false []) = none := rfl
theorem q_plain {us r : List Int} {k : Nat} {c : Int} (h1 : c ≠ 34) (h2 : c ≠ 92) : qMap us k (quoteF false (c :: r)) = qMap (us ++ [c]) (k + 1) (quoteF false r) := by
  rw [quoteF, if_neg h1, if_neg h2]
  unfold qMap
  rw [Option.map_map]
  congr 1
  funext p
  simp
  omega
theorem q_esc {us r : List Int} {k : Nat} {c : Int} (h : c = 34 ∨ c = 92) : qMap us k (quoteF false (92 :: c :: r)) = qMap (us ++ [c]) (k + 1 + 1) (quoteF false r) := by
  rw [quoteF, if_neg (by omega), if_pos rfl, quoteF, if_pos h]
  unfold qMap
  rw [Option.map_map, Option.map_map]
  congr 1
  funext p
  simp
  omega
theorem q_esc_no {us r : List Int} {k : Nat} {c : Int} (h1 : c ≠ 34) (h2 : c ≠ 92) : qMap us k (quoteF false (92 :: c :: r)) = none := by
  rw [quoteF, if_neg (by omega), if_pos rfl, quoteF, if_neg (by omega)]
  rfl
theorem q_esc_nil {us : List Int} {k : Nat} : qMap us k (quoteF false [92]) = none := by
  rw [quoteF, if_neg (by omega), if_pos rfl, quoteF]
  rfl
/-- What the token is, by what the loop comes to. -/
theorem q_tok {bs : List Int} {i : Nat} (h : bs.drop i = 34 :: bs.drop (i + 1)) :
    (qMap [] (i + 1) (quoteF false (bs.drop (i + 1))) = none → tokOf (bs.drop i) = none) ∧
    (∀ us k, qMap [] (i + 1) (quoteF false (bs.drop (i + 1))) = some (us, k) → (textOk us = false → tokOf (bs.drop i) = none) ∧ (textOk us = true → ∃ t, tokOf (bs.drop i) = some t ∧ t.kind = 0 ∧ t.td = ⟨2, us, 0, 0⟩ ∧ i + t.raw.length = k)) := by
  rw [h, tok_quote]
  cases hq : quoteF false (bs.drop (i + 1)) with
  | none => exact ⟨fun _ => rfl, fun us k hx => (by cases hx)⟩
  | some p =>
    refine ⟨fun hx => (by cases hx), fun us k hx => ?_⟩
    have hx : ([] ++ p.1, i + 1 + p.2) = (us, k) := Option.some.inj hx
    simp only [List.nil_append, Prod.mk.injEq] at hx
    obtain ⟨hx1, hx2⟩ := hx
    subst hx1 hx2
    refine ⟨fun h0 => ?_, fun h1 => ?_⟩
    · simp [h0]
    · refine ⟨⟨0, 34 :: (bs.drop (i + 1)).take p.2, ⟨2, p.1, 0, 0⟩⟩, ?_, rfl, rfl, ?_⟩
      · simp [h1]
      · have := quoteF_le _ p.1 p.2 hq
        rw [List.length_cons, List.length_take]
        omega
set_option maxHeartbeats 16000000 in
theorem l2quoted_any (a : Option Addr) (len cap : Nat) (bs : List Int) (i : Nat) (w : World) (hB : Bs w a len bs) (hl3 : len ≤ 100000) (hi : i < len) (h34 : bs.drop i = 34 :: bs.drop (i + 1)) :
    Calls Tryz.prog 124 #[.slice a len cap, .int .i64 i] w (TokAns bs i w) := by
  have hlen := hB.1
  have hl2 := hB.2.1
  have HQ : Hid _ := q_tok h34
  have HB : Hid (Bs w a len bs) := hB
  have HN : Hid (bs.length = len) := hlen
  obtain ⟨b0, off0, x0, rfl, _⟩ := hB.byte hi
  clear hB hlen h34
  go_enter Tryz.func124, Tryz.ntmps124
  have HX0 : Hid (Bx ((w.alloc (.cells [.int .i64 0, .int .i64 0, .int .i64 0, .slice none 0 0, .int .i64 0, .int .i64 0, .slice none 0 0].toArray 77)).alloc (.cells [.int .i64 1, .int .i64 i, .int .i64 2, (.slice none 0 0), .int .i64 0, .int .i64 0, .slice none 0 0].toArray 77)) (w.heap.size + 1) [.int .i64 1, .int .i64 i, .int .i64 2, (.slice none 0 0), .int .i64 0, .int .i64 0, .slice none 0 0]) := Bx.new (w.alloc (.cells [.int .i64 0, .int .i64 0, .int .i64 0, .slice none 0 0, .int .i64 0, .int .i64 0, .slice none 0 0].toArray 77)) (w.heap.size + 1) _ 77 (by simp)
  have HR0 : Hid (Bx ((w.alloc (.cells [.int .i64 0, .int .i64 0, .int .i64 0, .slice none 0 0, .int .i64 0, .int .i64 0, .slice none 0 0].toArray 77)).alloc (.cells [.int .i64 1, .int .i64 i, .int .i64 2, (.slice none 0 0), .int .i64 0, .int .i64 0, .slice none 0 0].toArray 77)) w.heap.size [.int .i64 0, .int .i64 0, .int .i64 0, .slice none 0 0, .int .i64 0, .int .i64 0, .slice none 0 0]) := (Bx.new w w.heap.size _ 77 rfl).below (bl_a _)
  have HW0 : Hid (Below w.heap.size w ((w.alloc (.cells [.int .i64 0, .int .i64 0, .int .i64 0, .slice none 0 0, .int .i64 0, .int .i64 0, .slice none 0 0].toArray 77)).alloc (.cells [.int .i64 1, .int .i64 i, .int .i64 2, (.slice none 0 0), .int .i64 0, .int .i64 0, .slice none 0 0].toArray 77))) := bl_alloc (bl_a _) _
  have HT0 : Hid (Tz ((w.alloc (.cells [.int .i64 0, .int .i64 0, .int .i64 0, .slice none 0 0, .int .i64 0, .int .i64 0, .slice none 0 0].toArray 77)).alloc (.cells [.int .i64 1, .int .i64 i, .int .i64 2, (.slice none 0 0), .int .i64 0, .int .i64 0, .slice none 0 0].toArray 77)) (w.heap.size + 2) none 0 0 []) := ⟨⟨rfl, by omega, by simp, .inl rfl⟩, .inl ⟨rfl, rfl, rfl⟩⟩
  go_wp2_with fail
  go_loopw [7] (fun kv wr => ∃ (k : Nat) (ta : Option Addr) (tl tc : Nat) (us : List Int), kv = .int .i64 k ∧ k ≤ len ∧ tl ≤ k ∧ Hid (Bx wr (w.heap.size + 1) [.int .i64 1, .int .i64 i, .int .i64 2, (.slice ta tl tc), .int .i64 0, .int .i64 0, .slice none 0 0]) ∧ Hid (Bx wr w.heap.size [.int .i64 0, .int .i64 0, .int .i64 0, .slice none 0 0, .int .i64 0, .int .i64 0, .slice none 0 0]) ∧ Hid (Below w.heap.size w wr) ∧ Hid (Tz wr (w.heap.size + 2) ta tl tc us) ∧ Hid (qMap us k (quoteF false (bs.drop k)) = qMap [] (i + 1) (quoteF false (bs.drop (i + 1))))) (fun kv _ => len - (intOf kv).toNat)
  case atStart => exact ⟨i + 1, none, 0, 0, [], by go_num, by omega, by omega, HX0, HR0, HW0, HT0, rfl⟩
  case round =>
    obtain ⟨k, ta, tl, tc, us, rfl, hk, htl, HX, HRB, HW, HT, HR⟩ := hrel
    clear HX0 HR0 HW0 HT0
    by_cases hlt : k < len
    · have hltz : (k : Int) < (len : Int) := by omega
      obtain ⟨b0', off0', c, e0, hc, hd, c0, c1⟩ := HB.out.byte hlt
      cases e0
      have hcw : wr.cell? ⟨b0, off0 + k, none⟩ = some (.int .u8 c) := (HW.out.cell (p := ⟨b0, off0 + k, none⟩) (cell_ltC hc)).trans hc
      have HD : Hid (bs.drop k = c :: bs.drop (k + 1)) := hd
      clear hc hd
      by_cases h34 : c = 34
      · have h34b : (c == 34) = true := by simp [h34]
        have HQ2 := HQ.out.2 us (k + 1) (by rw [← HR.out, HD.out, h34]; exact q_end)
        have hto : termOk 2 us 0 0 = textOk us := by simp [termOk]
        have TOK : Hid (Calls Tryz.prog 8 #[.agg #[.int .i64 2, .slice ta tl tc, .int .i64 0, .int .i64 0]] wr fun e w' => e = .returned (.bool (textOk us)) ∧ ∃ o1, w' = wr.alloc o1) := by
          have := specTermOk_any 2 0 0 ta tl tc us wr HT.out.1 (by omega) (by omega)
          rwa [hto] at this
        clear h34 HD HR hto
        obtain ⟨z0, z1, z2, z3, z4, z5, z6⟩ := bx7 HX.out
        go_wp2_with fail
        refine TOK.out.mono ?_
        rintro e wc ⟨rfl, o, hwc⟩
        have HXc : Hid (Bx wc (w.heap.size + 1) [.int .i64 1, .int .i64 i, .int .i64 2, (.slice ta tl tc), .int .i64 0, .int .i64 0, .slice none 0 0]) := by rw [hwc]; exact HX.out.below (bl_a _)
        have HRc : Hid (Bx wc w.heap.size [.int .i64 0, .int .i64 0, .int .i64 0, .slice none 0 0, .int .i64 0, .int .i64 0, .slice none 0 0]) := by rw [hwc]; exact HRB.out.below (bl_a _)
        have HWc : Hid (Below w.heap.size w wc) := by rw [hwc]; exact bl_trans HW.out (bl_a _)
        have HTc : Hid (Tz wc (w.heap.size + 2) ta tl tc us) := by rw [hwc]; exact HT.out.below (bl_a _)
        clear z0 z1 z2 z3 z4 z5 z6 hwc TOK HX HRB HW HT hcw
        cases hq : textOk us with
        | false =>
          have HNO : Hid (tokOf (bs.drop i) = none) := HQ2.1 hq
          clear HQ2 hq
          obtain ⟨z0, z1, z2, z3, z4, z5, z6⟩ := bx7 HXc.out
          obtain ⟨y0, y1, y2, y3, y4, y5, y6⟩ := bx7 HRc.out
          obtain ⟨e0, e1, e2, e3, e4, e5, e6⟩ := bx7f HRc.out
          have HFIN : Hid ((⟨1, i, ⟨2, ta, tl, tc, 0, 0⟩, us, none, 0, 0, []⟩ : MT).lies _ ∧ Below w.heap.size w _) := fin7 (m := ⟨1, i, ⟨2, ta, tl, tc, 0, 0⟩, us, none, 0, 0, []⟩) (Nat.le_refl _) HRc.out ⟨HTc.out.bs0, Bs0.nil _ _, fits0 _ _ _ _⟩ HWc.out
          go_wp2_with fail
          refine bodyPost_ret (v := .tuple #[.agg #[.int .i64 1, .int .i64 i, .int .i64 2, .slice ta tl tc, .int .i64 0, .int .i64 0, .slice none 0 0], .int .i64 (-1)]) (by simp [results, Tryz.results124, go_sem, *]) rfl ⟨⟨⟨1, i, ⟨2, ta, tl, tc, 0, 0⟩, us, none, 0, 0, []⟩, _, rfl, HFIN.out.1, .inr ⟨HNO.out, rfl⟩⟩, HFIN.out.2⟩
        | true =>
          have HYES : Hid (∃ t, tokOf (bs.drop i) = some t ∧ t.kind = 0 ∧ t.td = ⟨2, us, 0, 0⟩ ∧ i + t.raw.length = k + 1) := HQ2.2 hq
          clear HQ2 hq
          have HTT : Hid (∃ t, tokOf (bs.drop i) = some t ∧ (⟨1, i, ⟨2, ta, tl, tc, 0, 0⟩, us, none, 0, 0, []⟩ : MT).is i t ∧ ((k : Int) + 1) = ((i + t.raw.length : Nat) : Int)) := by
            obtain ⟨t, h1, h2, h3, h4⟩ := HYES.out
            exact ⟨t, h1, ⟨by rw [h2]; rfl, rfl, fun _ => h3.symm, by rw [txtM, if_pos h2]⟩, by omega⟩
          clear HYES
          obtain ⟨z0, z1, z2, z3, z4, z5, z6⟩ := bx7 HXc.out
          obtain ⟨y0, y1, y2, y3, y4, y5, y6⟩ := bx7 HRc.out
          obtain ⟨e0, e1, e2, e3, e4, e5, e6⟩ := bx7f HRc.out
          have HFIN : Hid ((⟨1, i, ⟨2, ta, tl, tc, 0, 0⟩, us, none, 0, 0, []⟩ : MT).lies _ ∧ Below w.heap.size w _) := fin7 (m := ⟨1, i, ⟨2, ta, tl, tc, 0, 0⟩, us, none, 0, 0, []⟩) (Nat.le_refl _) HRc.out ⟨HTc.out.bs0, Bs0.nil _ _, fits0 _ _ _ _⟩ HWc.out
          go_wp2_with fail
          refine bodyPost_ret (v := .tuple #[.agg #[.int .i64 1, .int .i64 i, .int .i64 2, .slice ta tl tc, .int .i64 0, .int .i64 0, .slice none 0 0], .int .i64 ((k : Int) + 1)]) (by simp [results, Tryz.results124, go_sem, *]) rfl ⟨⟨⟨1, i, ⟨2, ta, tl, tc, 0, 0⟩, us, none, 0, 0, []⟩, _, rfl, HFIN.out.1, .inl HTT.out⟩, HFIN.out.2⟩
      · have h34b : (c == 34) = false := by simp [h34]
        by_cases h92 : c = 92
        · have h92b : (c == 92) = true := by simp [h92]
          have HC92 : Hid (c = 92) := h92
          clear h34 h92
          by_cases hn : k + 1 < len
          · have hnz : ¬ (len : Int) ≤ (k : Int) + 1 := by omega
            have hk0z : (0 : Int) ≤ (k : Int) + 1 := by omega
            have hk1z : (k : Int) + 1 < (len : Int) := by omega
            obtain ⟨b1', off1', y, e1, hy, hdy, y0, y1⟩ := HB.out.byte hn
            cases e1
            have hyw : wr.cell? ⟨b0, off0 + (k + 1), none⟩ = some (.int .u8 y) := (HW.out.cell (p := ⟨b0, off0 + (k + 1), none⟩) (cell_ltC hy)).trans hy
            by_cases hy34 : y = 34 ∨ y = 92
            · have HRn : Hid (qMap (us ++ [y]) (k + 1 + 1) (quoteF false (bs.drop (k + 1 + 1))) = qMap [] (i + 1) (quoteF false (bs.drop (i + 1)))) := by
                show _ = _
                rw [← HR.out, HD.out, HC92.out, hdy]
                exact (q_esc hy34).symm
              clear hdy hy HR HD HC92
              rcases hy34 with hy34 | hy34
              · have hya : (y != 34) = false := by simp [hy34]
                clear hy34
                have HTb : Hid (Tz ((wr.alloc (.cells #[.int .u8 y] 5)).drew) (w.heap.size + 2) ta tl tc us) := HT.out.below (Below.drew (bl_a (w := wr) _))
                have HSb : Hid (Src Tryz.prog 1 22 (.slice (some ⟨wr.heap.size, 0, none⟩) 1 1) 1 (([y] : List Int).map (Value.int .u8)) ((wr.alloc (.cells #[.int .u8 y] 5)).drew)) := src_bs ((Bs0.one wr y ⟨y0, y1⟩).1.below (Below.drew (Below.refl _ _)))
                have HYb : Hid (Byt (us ++ [y])) := (byt_raw HT.out.1).app (Byt.cons (by omega) Byt.nil)
                have hBb : w.heap.size + 2 ≤ (((wr.alloc (.cells #[.int .u8 y] 5)).drew)).heap.size := by
                  have h := HX.out.lt
                  show w.heap.size + 2 ≤ (wr.alloc (.cells #[.int .u8 y] 5)).heap.size
                  simp
                  omega
                have HXb : Hid (Bx ((wr.alloc (.cells #[.int .u8 y] 5)).drew) (w.heap.size + 1) [.int .i64 1, .int .i64 i, .int .i64 2, (.slice ta tl tc), .int .i64 0, .int .i64 0, .slice none 0 0]) := HX.out.below (Below.drew (bl_a (w := wr) _))
                have HRb : Hid (Bx ((wr.alloc (.cells #[.int .u8 y] 5)).drew) w.heap.size [.int .i64 0, .int .i64 0, .int .i64 0, .slice none 0 0, .int .i64 0, .int .i64 0, .slice none 0 0]) := HRB.out.below (Below.drew (bl_a (w := wr) _))
                have HWb : Hid (Below w.heap.size w ((wr.alloc (.cells #[.int .u8 y] 5)).drew)) := bl_trans HW.out (Below.drew (bl_a (w := wr) _))
                have k3 := HX.out.c 3 _ rfl
                have k3c : (wr.alloc (.cells #[.int .u8 y] 5)).cell? ⟨w.heap.size + 1, 3, none⟩ = some (.slice ta tl tc) := (HX.out.below (bl_a _)).c 3 _ rfl
                have hne3 : ¬ w.heap.size + 1 = wr.heap.size := by have := HX.out.lt; omega
                go_wp2_with fail
                refine wp_region_held_drew (S := fun _ => True) (by kernel_rfl) trivial (fun hHeld => ?_)
                refine take_at (i := 0) 59 (v := ?v1) rfl rfl (by kernel_rfl) (by kernel_rfl) (by kernel_rfl) (fun _ _ _ h => h) (Or.inl ⟨by rfl, ?y1⟩) hHeld ?r1
                case y1 => (intro w' hSw; skip; go_simp; (try with_reducible rfl))
                try simp only [Act.put, List.setIfInBounds_toArray, List.set_cons_zero, List.set_cons_succ]
                refine take_at (i := 1) 60 (v := ?v2) rfl rfl (by kernel_rfl) (by kernel_rfl) (by kernel_rfl) (fun _ _ _ h => h) (Or.inl ⟨by rfl, ?y2⟩) hHeld ?r2
                case y2 => (intro w' hSw; skip; go_simp; (try with_reducible rfl))
                try simp only [Act.put, List.setIfInBounds_toArray, List.set_cons_zero, List.set_cons_succ]
                refine take_at (i := 3) 62 (v := ?v3) rfl rfl (by kernel_rfl) (by kernel_rfl) (by kernel_rfl) (fun _ _ _ h => h) (Or.inl ⟨by rfl, ?y3⟩) hHeld ?r3
                case y3 => (intro w' hSw; skip; go_simp; (try with_reducible rfl))
                try simp only [Act.put, List.setIfInBounds_toArray, List.set_cons_zero, List.set_cons_succ]
                refine take_at (i := 4) 63 (v := ?v4) rfl rfl (by kernel_rfl) (by kernel_rfl) (by kernel_rfl) (fun _ _ _ h => h) (Or.inl ⟨by rfl, ?y4⟩) hHeld ?r4
                case y4 => (intro w' hSw; skip; go_simp; (try with_reducible rfl))
                try simp only [Act.put, List.setIfInBounds_toArray, List.set_cons_zero, List.set_cons_succ]
                refine take_at (i := 5) 64 (v := ?v5) rfl rfl (by kernel_rfl) (by kernel_rfl) (by kernel_rfl) (fun _ _ _ h => h) (Or.inl ⟨by rfl, ?y5⟩) hHeld ?r5
                case y5 => (intro w' hSw; skip; go_simp; (try with_reducible rfl))
                try simp only [Act.put, List.setIfInBounds_toArray, List.set_cons_zero, List.set_cons_succ]
                refine wpAnyH_ready (rs := [2, 6]) (by kernel_rfl) (by simp) ?_
                refine AllReadyH.cons rfl (fun K hK => ?_) (AllReadyH.cons rfl (fun K hK => ?_) AllReadyH.nil)
                · go_simp
                  refine hK.out _ _ ?_ (fun hHeld => ?_)
                  · exact trivial
                  clear hK K
                  try simp only [Act.put, List.setIfInBounds_toArray, List.set_cons_zero, List.set_cons_succ]
                  refine wpAnyH_ready (rs := [6]) (by kernel_rfl) (by simp) ?_
                  refine AllReadyH.cons rfl (fun K hK => ?_) AllReadyH.nil
                  go_simp
                  refine hK.out _ _ ?_ (fun hHeld => ?_)
                  · exact trivial
                  clear hK K
                  try simp only [Act.put, List.setIfInBounds_toArray, List.set_cons_zero, List.set_cons_succ]
                  refine wpAnyH_ready (rs := [7]) (by kernel_rfl) (by simp) ?_
                  refine AllReadyH.cons rfl (fun K hK => ?_) AllReadyH.nil
                  go_simp
                  refine hK.out _ _ ?_ (fun hHeld => ?_)
                  · exact trivial
                  clear hK K
                  try simp only [Act.put, List.setIfInBounds_toArray, List.set_cons_zero, List.set_cons_succ]
                  refine wpAnyH_ready (rs := [8]) (by kernel_rfl) (by simp) ?_
                  refine AllReadyH.cons rfl (fun K hK => ?_) AllReadyH.nil
                  refine step_app8z rfl (.tmp 61) (.tmp 66) 22 rfl (w.heap.size + 2) tl tc ta us rfl HTb (.slice (some ⟨wr.heap.size, 0, none⟩) 1 1) 1 [y] rfl (fun _ => Nat.one_pos) HSb HYb (tl + 1) rfl (us ++ [y]) rfl (by omega) hBb ?_
                  intro g3 c3 w3 HT3 HD3
                  refine hK.out _ _ ?_ (fun hHeld => ?_)
                  · exact trivial
                  clear hK K
                  try simp only [Act.put, List.setIfInBounds_toArray]
                  have HX3 : Hid (Bx w3 (w.heap.size + 1) [.int .i64 1, .int .i64 i, .int .i64 2, (.slice ta tl tc), .int .i64 0, .int .i64 0, .slice none 0 0]) := HXb.out.belowB HD3.out (by omega)
                  have HR3 : Hid (Bx w3 w.heap.size [.int .i64 0, .int .i64 0, .int .i64 0, .slice none 0 0, .int .i64 0, .int .i64 0, .slice none 0 0]) := HRb.out.belowB HD3.out (by omega)
                  have HW3 : Hid (Below w.heap.size w w3) := HWb.out.trans (HD3.out.mono (by omega))
                  have k3 := HX3.out.c 3 _ rfl
                  have f3 := HX3.out.f 3 (by simp)
                  refine take_at (i := 9) 68 (v := ?v6) rfl rfl (by kernel_rfl) (by kernel_rfl) (by kernel_rfl) (fun _ _ _ h => h) (Or.inl ⟨by rfl, ?y6⟩) hHeld ?r6
                  case y6 => (intro w' hSw; skip; go_simp; (try with_reducible rfl))
                  try simp only [Act.put]
                  refine take_at (i := 10) 69 (v := ?v7) rfl rfl (by kernel_rfl) (by kernel_rfl) (by kernel_rfl) (fun _ _ _ h => h) (Or.inl ⟨by rfl, ?y7⟩) hHeld ?r7
                  case y7 => (intro w' hSw; skip; go_simp; (try with_reducible rfl))
                  try simp only [Act.put]
                  refine wpAnyH_ready (rs := [11]) (by kernel_rfl) (by simp) ?_
                  refine AllReadyH.cons rfl (fun K hK => ?_) AllReadyH.nil
                  go_simp
                  refine hK.out _ _ ?_ (fun hHeld => ?_)
                  · exact trivial
                  clear hK K
                  try simp only [Act.put, List.setIfInBounds_toArray, List.set_cons_zero, List.set_cons_succ]
                  refine wpAnyH_done (by kernel_rfl) ?_ _
                  clear hHeld k3 f3
                  have HX4 : Hid (Bx (w3.setCell ⟨w.heap.size + 1, 3, none⟩ (.slice (some ⟨g3, 0, none⟩) (tl + 1) c3)) (w.heap.size + 1) [.int .i64 1, .int .i64 i, .int .i64 2, (.slice (some ⟨g3, 0, none⟩) (tl + 1) c3), .int .i64 0, .int .i64 0, .slice none 0 0]) := HX3.out.set 3 _ (by simp)
                  have HR4 : Hid (Bx (w3.setCell ⟨w.heap.size + 1, 3, none⟩ (.slice (some ⟨g3, 0, none⟩) (tl + 1) c3)) w.heap.size [.int .i64 0, .int .i64 0, .int .i64 0, .slice none 0 0, .int .i64 0, .int .i64 0, .slice none 0 0]) := HR3.out.other _ _ (by omega)
                  have HW4 : Hid (Below w.heap.size w (w3.setCell ⟨w.heap.size + 1, 3, none⟩ (.slice (some ⟨g3, 0, none⟩) (tl + 1) c3))) := HW3.out.setCell (p := ⟨w.heap.size + 1, 3, none⟩) (by show w.heap.size ≤ w.heap.size + 1; omega) _
                  have HT4 : Hid (Tz (w3.setCell ⟨w.heap.size + 1, 3, none⟩ (.slice (some ⟨g3, 0, none⟩) (tl + 1) c3)) (w.heap.size + 2) (some ⟨g3, 0, none⟩) (tl + 1) c3 (us ++ [y])) := HT3.out.past ((Past.refl (w.heap.size + 1) w3).set 3 _) (by omega)
                  generalize w3.setCell ⟨w.heap.size + 1, 3, none⟩ (.slice (some ⟨g3, 0, none⟩) (tl + 1) c3) = w4 at *
                  clear HX3 HR3 HW3 HT3 HD3 HTb HSb HYb HXb HRb HWb
                  go_wp2_with fail
                  go_roundw
                  case rel => exact ⟨k + 1 + 1, some ⟨g3, 0, none⟩, tl + 1, c3, us ++ [y], by go_num, by omega, by omega, HX4, HR4, HW4, HT4, HRn⟩
                  case measure => simp [intOf]; omega
                · go_simp
                  refine hK.out _ _ ?_ (fun hHeld => ?_)
                  · exact trivial
                  clear hK K
                  try simp only [Act.put, List.setIfInBounds_toArray, List.set_cons_zero, List.set_cons_succ]
                  refine wpAnyH_ready (rs := [2, 7]) (by kernel_rfl) (by simp) ?_
                  refine AllReadyH.cons rfl (fun K hK => ?_) (AllReadyH.cons rfl (fun K hK => ?_) AllReadyH.nil)
                  · go_simp
                    refine hK.out _ _ ?_ (fun hHeld => ?_)
                    · exact trivial
                    clear hK K
                    try simp only [Act.put, List.setIfInBounds_toArray, List.set_cons_zero, List.set_cons_succ]
                    refine wpAnyH_ready (rs := [7]) (by kernel_rfl) (by simp) ?_
                    refine AllReadyH.cons rfl (fun K hK => ?_) AllReadyH.nil
                    go_simp
                    refine hK.out _ _ ?_ (fun hHeld => ?_)
                    · exact trivial
                    clear hK K
                    try simp only [Act.put, List.setIfInBounds_toArray, List.set_cons_zero, List.set_cons_succ]
                    refine wpAnyH_ready (rs := [8]) (by kernel_rfl) (by simp) ?_
                    refine AllReadyH.cons rfl (fun K hK => ?_) AllReadyH.nil
                    refine step_app8z rfl (.tmp 61) (.tmp 66) 22 rfl (w.heap.size + 2) tl tc ta us rfl HTb (.slice (some ⟨wr.heap.size, 0, none⟩) 1 1) 1 [y] rfl (fun _ => Nat.one_pos) HSb HYb (tl + 1) rfl (us ++ [y]) rfl (by omega) hBb ?_
                    intro g3 c3 w3 HT3 HD3
                    refine hK.out _ _ ?_ (fun hHeld => ?_)
                    · exact trivial
                    clear hK K
                    try simp only [Act.put, List.setIfInBounds_toArray]
                    have HX3 : Hid (Bx w3 (w.heap.size + 1) [.int .i64 1, .int .i64 i, .int .i64 2, (.slice ta tl tc), .int .i64 0, .int .i64 0, .slice none 0 0]) := HXb.out.belowB HD3.out (by omega)
                    have HR3 : Hid (Bx w3 w.heap.size [.int .i64 0, .int .i64 0, .int .i64 0, .slice none 0 0, .int .i64 0, .int .i64 0, .slice none 0 0]) := HRb.out.belowB HD3.out (by omega)
                    have HW3 : Hid (Below w.heap.size w w3) := HWb.out.trans (HD3.out.mono (by omega))
                    have k3 := HX3.out.c 3 _ rfl
                    have f3 := HX3.out.f 3 (by simp)
                    refine take_at (i := 9) 68 (v := ?v8) rfl rfl (by kernel_rfl) (by kernel_rfl) (by kernel_rfl) (fun _ _ _ h => h) (Or.inl ⟨by rfl, ?y8⟩) hHeld ?r8
                    case y8 => (intro w' hSw; skip; go_simp; (try with_reducible rfl))
                    try simp only [Act.put]
                    refine take_at (i := 10) 69 (v := ?v9) rfl rfl (by kernel_rfl) (by kernel_rfl) (by kernel_rfl) (fun _ _ _ h => h) (Or.inl ⟨by rfl, ?y9⟩) hHeld ?r9
                    case y9 => (intro w' hSw; skip; go_simp; (try with_reducible rfl))
                    try simp only [Act.put]
                    refine wpAnyH_ready (rs := [11]) (by kernel_rfl) (by simp) ?_
                    refine AllReadyH.cons rfl (fun K hK => ?_) AllReadyH.nil
                    go_simp
                    refine hK.out _ _ ?_ (fun hHeld => ?_)
                    · exact trivial
                    clear hK K
                    try simp only [Act.put, List.setIfInBounds_toArray, List.set_cons_zero, List.set_cons_succ]
                    refine wpAnyH_done (by kernel_rfl) ?_ _
                    clear hHeld k3 f3
                    have HX4 : Hid (Bx (w3.setCell ⟨w.heap.size + 1, 3, none⟩ (.slice (some ⟨g3, 0, none⟩) (tl + 1) c3)) (w.heap.size + 1) [.int .i64 1, .int .i64 i, .int .i64 2, (.slice (some ⟨g3, 0, none⟩) (tl + 1) c3), .int .i64 0, .int .i64 0, .slice none 0 0]) := HX3.out.set 3 _ (by simp)
                    have HR4 : Hid (Bx (w3.setCell ⟨w.heap.size + 1, 3, none⟩ (.slice (some ⟨g3, 0, none⟩) (tl + 1) c3)) w.heap.size [.int .i64 0, .int .i64 0, .int .i64 0, .slice none 0 0, .int .i64 0, .int .i64 0, .slice none 0 0]) := HR3.out.other _ _ (by omega)
                    have HW4 : Hid (Below w.heap.size w (w3.setCell ⟨w.heap.size + 1, 3, none⟩ (.slice (some ⟨g3, 0, none⟩) (tl + 1) c3))) := HW3.out.setCell (p := ⟨w.heap.size + 1, 3, none⟩) (by show w.heap.size ≤ w.heap.size + 1; omega) _
                    have HT4 : Hid (Tz (w3.setCell ⟨w.heap.size + 1, 3, none⟩ (.slice (some ⟨g3, 0, none⟩) (tl + 1) c3)) (w.heap.size + 2) (some ⟨g3, 0, none⟩) (tl + 1) c3 (us ++ [y])) := HT3.out.past ((Past.refl (w.heap.size + 1) w3).set 3 _) (by omega)
                    generalize w3.setCell ⟨w.heap.size + 1, 3, none⟩ (.slice (some ⟨g3, 0, none⟩) (tl + 1) c3) = w4 at *
                    clear HX3 HR3 HW3 HT3 HD3 HTb HSb HYb HXb HRb HWb
                    go_wp2_with fail
                    go_roundw
                    case rel => exact ⟨k + 1 + 1, some ⟨g3, 0, none⟩, tl + 1, c3, us ++ [y], by go_num, by omega, by omega, HX4, HR4, HW4, HT4, HRn⟩
                    case measure => simp [intOf]; omega
                  · go_simp
                    refine hK.out _ _ ?_ (fun hHeld => ?_)
                    · exact trivial
                    clear hK K
                    try simp only [Act.put, List.setIfInBounds_toArray, List.set_cons_zero, List.set_cons_succ]
                    refine wpAnyH_ready (rs := [2]) (by kernel_rfl) (by simp) ?_
                    refine AllReadyH.cons rfl (fun K hK => ?_) AllReadyH.nil
                    go_simp
                    refine hK.out _ _ ?_ (fun hHeld => ?_)
                    · exact trivial
                    clear hK K
                    try simp only [Act.put, List.setIfInBounds_toArray, List.set_cons_zero, List.set_cons_succ]
                    refine wpAnyH_ready (rs := [8]) (by kernel_rfl) (by simp) ?_
                    refine AllReadyH.cons rfl (fun K hK => ?_) AllReadyH.nil
                    refine step_app8z rfl (.tmp 61) (.tmp 66) 22 rfl (w.heap.size + 2) tl tc ta us rfl HTb (.slice (some ⟨wr.heap.size, 0, none⟩) 1 1) 1 [y] rfl (fun _ => Nat.one_pos) HSb HYb (tl + 1) rfl (us ++ [y]) rfl (by omega) hBb ?_
                    intro g3 c3 w3 HT3 HD3
                    refine hK.out _ _ ?_ (fun hHeld => ?_)
                    · exact trivial
                    clear hK K
                    try simp only [Act.put, List.setIfInBounds_toArray]
                    have HX3 : Hid (Bx w3 (w.heap.size + 1) [.int .i64 1, .int .i64 i, .int .i64 2, (.slice ta tl tc), .int .i64 0, .int .i64 0, .slice none 0 0]) := HXb.out.belowB HD3.out (by omega)
                    have HR3 : Hid (Bx w3 w.heap.size [.int .i64 0, .int .i64 0, .int .i64 0, .slice none 0 0, .int .i64 0, .int .i64 0, .slice none 0 0]) := HRb.out.belowB HD3.out (by omega)
                    have HW3 : Hid (Below w.heap.size w w3) := HWb.out.trans (HD3.out.mono (by omega))
                    have k3 := HX3.out.c 3 _ rfl
                    have f3 := HX3.out.f 3 (by simp)
                    refine take_at (i := 9) 68 (v := ?v10) rfl rfl (by kernel_rfl) (by kernel_rfl) (by kernel_rfl) (fun _ _ _ h => h) (Or.inl ⟨by rfl, ?y10⟩) hHeld ?r10
                    case y10 => (intro w' hSw; skip; go_simp; (try with_reducible rfl))
                    try simp only [Act.put]
                    refine take_at (i := 10) 69 (v := ?v11) rfl rfl (by kernel_rfl) (by kernel_rfl) (by kernel_rfl) (fun _ _ _ h => h) (Or.inl ⟨by rfl, ?y11⟩) hHeld ?r11
                    case y11 => (intro w' hSw; skip; go_simp; (try with_reducible rfl))
                    try simp only [Act.put]
                    refine wpAnyH_ready (rs := [11]) (by kernel_rfl) (by simp) ?_
                    refine AllReadyH.cons rfl (fun K hK => ?_) AllReadyH.nil
                    go_simp
                    refine hK.out _ _ ?_ (fun hHeld => ?_)
                    · exact trivial
                    clear hK K
                    try simp only [Act.put, List.setIfInBounds_toArray, List.set_cons_zero, List.set_cons_succ]
                    refine wpAnyH_done (by kernel_rfl) ?_ _
                    clear hHeld k3 f3
                    have HX4 : Hid (Bx (w3.setCell ⟨w.heap.size + 1, 3, none⟩ (.slice (some ⟨g3, 0, none⟩) (tl + 1) c3)) (w.heap.size + 1) [.int .i64 1, .int .i64 i, .int .i64 2, (.slice (some ⟨g3, 0, none⟩) (tl + 1) c3), .int .i64 0, .int .i64 0, .slice none 0 0]) := HX3.out.set 3 _ (by simp)
                    have HR4 : Hid (Bx (w3.setCell ⟨w.heap.size + 1, 3, none⟩ (.slice (some ⟨g3, 0, none⟩) (tl + 1) c3)) w.heap.size [.int .i64 0, .int .i64 0, .int .i64 0, .slice none 0 0, .int .i64 0, .int .i64 0, .slice none 0 0]) := HR3.out.other _ _ (by omega)
                    have HW4 : Hid (Below w.heap.size w (w3.setCell ⟨w.heap.size + 1, 3, none⟩ (.slice (some ⟨g3, 0, none⟩) (tl + 1) c3))) := HW3.out.setCell (p := ⟨w.heap.size + 1, 3, none⟩) (by show w.heap.size ≤ w.heap.size + 1; omega) _
                    have HT4 : Hid (Tz (w3.setCell ⟨w.heap.size + 1, 3, none⟩ (.slice (some ⟨g3, 0, none⟩) (tl + 1) c3)) (w.heap.size + 2) (some ⟨g3, 0, none⟩) (tl + 1) c3 (us ++ [y])) := HT3.out.past ((Past.refl (w.heap.size + 1) w3).set 3 _) (by omega)
                    generalize w3.setCell ⟨w.heap.size + 1, 3, none⟩ (.slice (some ⟨g3, 0, none⟩) (tl + 1) c3) = w4 at *
                    clear HX3 HR3 HW3 HT3 HD3 HTb HSb HYb HXb HRb HWb
                    go_wp2_with fail
                    go_roundw
                    case rel => exact ⟨k + 1 + 1, some ⟨g3, 0, none⟩, tl + 1, c3, us ++ [y], by go_num, by omega, by omega, HX4, HR4, HW4, HT4, HRn⟩
                    case measure => simp [intOf]; omega
              · have hya : (y != 34) = true := by rw [hy34]; decide
                have hyb : (y != 92) = false := by simp [hy34]
                clear hy34
                have HTb : Hid (Tz ((wr.alloc (.cells #[.int .u8 y] 5)).drew) (w.heap.size + 2) ta tl tc us) := HT.out.below (Below.drew (bl_a (w := wr) _))
                have HSb : Hid (Src Tryz.prog 1 22 (.slice (some ⟨wr.heap.size, 0, none⟩) 1 1) 1 (([y] : List Int).map (Value.int .u8)) ((wr.alloc (.cells #[.int .u8 y] 5)).drew)) := src_bs ((Bs0.one wr y ⟨y0, y1⟩).1.below (Below.drew (Below.refl _ _)))
                have HYb : Hid (Byt (us ++ [y])) := (byt_raw HT.out.1).app (Byt.cons (by omega) Byt.nil)
                have hBb : w.heap.size + 2 ≤ (((wr.alloc (.cells #[.int .u8 y] 5)).drew)).heap.size := by
                  have h := HX.out.lt
                  show w.heap.size + 2 ≤ (wr.alloc (.cells #[.int .u8 y] 5)).heap.size
                  simp
                  omega
                have HXb : Hid (Bx ((wr.alloc (.cells #[.int .u8 y] 5)).drew) (w.heap.size + 1) [.int .i64 1, .int .i64 i, .int .i64 2, (.slice ta tl tc), .int .i64 0, .int .i64 0, .slice none 0 0]) := HX.out.below (Below.drew (bl_a (w := wr) _))
                have HRb : Hid (Bx ((wr.alloc (.cells #[.int .u8 y] 5)).drew) w.heap.size [.int .i64 0, .int .i64 0, .int .i64 0, .slice none 0 0, .int .i64 0, .int .i64 0, .slice none 0 0]) := HRB.out.below (Below.drew (bl_a (w := wr) _))
                have HWb : Hid (Below w.heap.size w ((wr.alloc (.cells #[.int .u8 y] 5)).drew)) := bl_trans HW.out (Below.drew (bl_a (w := wr) _))
                have k3 := HX.out.c 3 _ rfl
                have k3c : (wr.alloc (.cells #[.int .u8 y] 5)).cell? ⟨w.heap.size + 1, 3, none⟩ = some (.slice ta tl tc) := (HX.out.below (bl_a _)).c 3 _ rfl
                have hne3 : ¬ w.heap.size + 1 = wr.heap.size := by have := HX.out.lt; omega
                go_wp2_with fail
                refine wp_region_held_drew (S := fun _ => True) (by kernel_rfl) trivial (fun hHeld => ?_)
                refine take_at (i := 0) 59 (v := ?v12) rfl rfl (by kernel_rfl) (by kernel_rfl) (by kernel_rfl) (fun _ _ _ h => h) (Or.inl ⟨by rfl, ?y12⟩) hHeld ?r12
                case y12 => (intro w' hSw; skip; go_simp; (try with_reducible rfl))
                try simp only [Act.put, List.setIfInBounds_toArray, List.set_cons_zero, List.set_cons_succ]
                refine take_at (i := 1) 60 (v := ?v13) rfl rfl (by kernel_rfl) (by kernel_rfl) (by kernel_rfl) (fun _ _ _ h => h) (Or.inl ⟨by rfl, ?y13⟩) hHeld ?r13
                case y13 => (intro w' hSw; skip; go_simp; (try with_reducible rfl))
                try simp only [Act.put, List.setIfInBounds_toArray, List.set_cons_zero, List.set_cons_succ]
                refine take_at (i := 3) 62 (v := ?v14) rfl rfl (by kernel_rfl) (by kernel_rfl) (by kernel_rfl) (fun _ _ _ h => h) (Or.inl ⟨by rfl, ?y14⟩) hHeld ?r14
                case y14 => (intro w' hSw; skip; go_simp; (try with_reducible rfl))
                try simp only [Act.put, List.setIfInBounds_toArray, List.set_cons_zero, List.set_cons_succ]
                refine take_at (i := 4) 63 (v := ?v15) rfl rfl (by kernel_rfl) (by kernel_rfl) (by kernel_rfl) (fun _ _ _ h => h) (Or.inl ⟨by rfl, ?y15⟩) hHeld ?r15
                case y15 => (intro w' hSw; skip; go_simp; (try with_reducible rfl))
                try simp only [Act.put, List.setIfInBounds_toArray, List.set_cons_zero, List.set_cons_succ]
                refine take_at (i := 5) 64 (v := ?v16) rfl rfl (by kernel_rfl) (by kernel_rfl) (by kernel_rfl) (fun _ _ _ h => h) (Or.inl ⟨by rfl, ?y16⟩) hHeld ?r16
                case y16 => (intro w' hSw; skip; go_simp; (try with_reducible rfl))
                try simp only [Act.put, List.setIfInBounds_toArray, List.set_cons_zero, List.set_cons_succ]
                refine wpAnyH_ready (rs := [2, 6]) (by kernel_rfl) (by simp) ?_
                refine AllReadyH.cons rfl (fun K hK => ?_) (AllReadyH.cons rfl (fun K hK => ?_) AllReadyH.nil)
                · go_simp
                  refine hK.out _ _ ?_ (fun hHeld => ?_)
                  · exact trivial
                  clear hK K
                  try simp only [Act.put, List.setIfInBounds_toArray, List.set_cons_zero, List.set_cons_succ]
                  refine wpAnyH_ready (rs := [6]) (by kernel_rfl) (by simp) ?_
                  refine AllReadyH.cons rfl (fun K hK => ?_) AllReadyH.nil
                  go_simp
                  refine hK.out _ _ ?_ (fun hHeld => ?_)
                  · exact trivial
                  clear hK K
                  try simp only [Act.put, List.setIfInBounds_toArray, List.set_cons_zero, List.set_cons_succ]
                  refine wpAnyH_ready (rs := [7]) (by kernel_rfl) (by simp) ?_
                  refine AllReadyH.cons rfl (fun K hK => ?_) AllReadyH.nil
                  go_simp
                  refine hK.out _ _ ?_ (fun hHeld => ?_)
                  · exact trivial
                  clear hK K
                  try simp only [Act.put, List.setIfInBounds_toArray, List.set_cons_zero, List.set_cons_succ]
                  refine wpAnyH_ready (rs := [8]) (by kernel_rfl) (by simp) ?_
                  refine AllReadyH.cons rfl (fun K hK => ?_) AllReadyH.nil
                  refine step_app8z rfl (.tmp 61) (.tmp 66) 22 rfl (w.heap.size + 2) tl tc ta us rfl HTb (.slice (some ⟨wr.heap.size, 0, none⟩) 1 1) 1 [y] rfl (fun _ => Nat.one_pos) HSb HYb (tl + 1) rfl (us ++ [y]) rfl (by omega) hBb ?_
                  intro g3 c3 w3 HT3 HD3
                  refine hK.out _ _ ?_ (fun hHeld => ?_)
                  · exact trivial
                  clear hK K
                  try simp only [Act.put, List.setIfInBounds_toArray]
                  have HX3 : Hid (Bx w3 (w.heap.size + 1) [.int .i64 1, .int .i64 i, .int .i64 2, (.slice ta tl tc), .int .i64 0, .int .i64 0, .slice none 0 0]) := HXb.out.belowB HD3.out (by omega)
                  have HR3 : Hid (Bx w3 w.heap.size [.int .i64 0, .int .i64 0, .int .i64 0, .slice none 0 0, .int .i64 0, .int .i64 0, .slice none 0 0]) := HRb.out.belowB HD3.out (by omega)
                  have HW3 : Hid (Below w.heap.size w w3) := HWb.out.trans (HD3.out.mono (by omega))
                  have k3 := HX3.out.c 3 _ rfl
                  have f3 := HX3.out.f 3 (by simp)
                  refine take_at (i := 9) 68 (v := ?v17) rfl rfl (by kernel_rfl) (by kernel_rfl) (by kernel_rfl) (fun _ _ _ h => h) (Or.inl ⟨by rfl, ?y17⟩) hHeld ?r17
                  case y17 => (intro w' hSw; skip; go_simp; (try with_reducible rfl))
                  try simp only [Act.put]
                  refine take_at (i := 10) 69 (v := ?v18) rfl rfl (by kernel_rfl) (by kernel_rfl) (by kernel_rfl) (fun _ _ _ h => h) (Or.inl ⟨by rfl, ?y18⟩) hHeld ?r18
                  case y18 => (intro w' hSw; skip; go_simp; (try with_reducible rfl))
                  try simp only [Act.put]
                  refine wpAnyH_ready (rs := [11]) (by kernel_rfl) (by simp) ?_
                  refine AllReadyH.cons rfl (fun K hK => ?_) AllReadyH.nil
                  go_simp
                  refine hK.out _ _ ?_ (fun hHeld => ?_)
                  · exact trivial
                  clear hK K
                  try simp only [Act.put, List.setIfInBounds_toArray, List.set_cons_zero, List.set_cons_succ]
                  refine wpAnyH_done (by kernel_rfl) ?_ _
                  clear hHeld k3 f3
                  have HX4 : Hid (Bx (w3.setCell ⟨w.heap.size + 1, 3, none⟩ (.slice (some ⟨g3, 0, none⟩) (tl + 1) c3)) (w.heap.size + 1) [.int .i64 1, .int .i64 i, .int .i64 2, (.slice (some ⟨g3, 0, none⟩) (tl + 1) c3), .int .i64 0, .int .i64 0, .slice none 0 0]) := HX3.out.set 3 _ (by simp)
                  have HR4 : Hid (Bx (w3.setCell ⟨w.heap.size + 1, 3, none⟩ (.slice (some ⟨g3, 0, none⟩) (tl + 1) c3)) w.heap.size [.int .i64 0, .int .i64 0, .int .i64 0, .slice none 0 0, .int .i64 0, .int .i64 0, .slice none 0 0]) := HR3.out.other _ _ (by omega)
                  have HW4 : Hid (Below w.heap.size w (w3.setCell ⟨w.heap.size + 1, 3, none⟩ (.slice (some ⟨g3, 0, none⟩) (tl + 1) c3))) := HW3.out.setCell (p := ⟨w.heap.size + 1, 3, none⟩) (by show w.heap.size ≤ w.heap.size + 1; omega) _
                  have HT4 : Hid (Tz (w3.setCell ⟨w.heap.size + 1, 3, none⟩ (.slice (some ⟨g3, 0, none⟩) (tl + 1) c3)) (w.heap.size + 2) (some ⟨g3, 0, none⟩) (tl + 1) c3 (us ++ [y])) := HT3.out.past ((Past.refl (w.heap.size + 1) w3).set 3 _) (by omega)
                  generalize w3.setCell ⟨w.heap.size + 1, 3, none⟩ (.slice (some ⟨g3, 0, none⟩) (tl + 1) c3) = w4 at *
                  clear HX3 HR3 HW3 HT3 HD3 HTb HSb HYb HXb HRb HWb
                  go_wp2_with fail
                  go_roundw
                  case rel => exact ⟨k + 1 + 1, some ⟨g3, 0, none⟩, tl + 1, c3, us ++ [y], by go_num, by omega, by omega, HX4, HR4, HW4, HT4, HRn⟩
                  case measure => simp [intOf]; omega
                · go_simp
                  refine hK.out _ _ ?_ (fun hHeld => ?_)
                  · exact trivial
                  clear hK K
                  try simp only [Act.put, List.setIfInBounds_toArray, List.set_cons_zero, List.set_cons_succ]
                  refine wpAnyH_ready (rs := [2, 7]) (by kernel_rfl) (by simp) ?_
                  refine AllReadyH.cons rfl (fun K hK => ?_) (AllReadyH.cons rfl (fun K hK => ?_) AllReadyH.nil)
                  · go_simp
                    refine hK.out _ _ ?_ (fun hHeld => ?_)
                    · exact trivial
                    clear hK K
                    try simp only [Act.put, List.setIfInBounds_toArray, List.set_cons_zero, List.set_cons_succ]
                    refine wpAnyH_ready (rs := [7]) (by kernel_rfl) (by simp) ?_
                    refine AllReadyH.cons rfl (fun K hK => ?_) AllReadyH.nil
                    go_simp
                    refine hK.out _ _ ?_ (fun hHeld => ?_)
                    · exact trivial
                    clear hK K
                    try simp only [Act.put, List.setIfInBounds_toArray, List.set_cons_zero, List.set_cons_succ]
                    refine wpAnyH_ready (rs := [8]) (by kernel_rfl) (by simp) ?_
                    refine AllReadyH.cons rfl (fun K hK => ?_) AllReadyH.nil
                    refine step_app8z rfl (.tmp 61) (.tmp 66) 22 rfl (w.heap.size + 2) tl tc ta us rfl HTb (.slice (some ⟨wr.heap.size, 0, none⟩) 1 1) 1 [y] rfl (fun _ => Nat.one_pos) HSb HYb (tl + 1) rfl (us ++ [y]) rfl (by omega) hBb ?_
                    intro g3 c3 w3 HT3 HD3
                    refine hK.out _ _ ?_ (fun hHeld => ?_)
                    · exact trivial
                    clear hK K
                    try simp only [Act.put, List.setIfInBounds_toArray]
                    have HX3 : Hid (Bx w3 (w.heap.size + 1) [.int .i64 1, .int .i64 i, .int .i64 2, (.slice ta tl tc), .int .i64 0, .int .i64 0, .slice none 0 0]) := HXb.out.belowB HD3.out (by omega)
                    have HR3 : Hid (Bx w3 w.heap.size [.int .i64 0, .int .i64 0, .int .i64 0, .slice none 0 0, .int .i64 0, .int .i64 0, .slice none 0 0]) := HRb.out.belowB HD3.out (by omega)
                    have HW3 : Hid (Below w.heap.size w w3) := HWb.out.trans (HD3.out.mono (by omega))
                    have k3 := HX3.out.c 3 _ rfl
                    have f3 := HX3.out.f 3 (by simp)
                    refine take_at (i := 9) 68 (v := ?v19) rfl rfl (by kernel_rfl) (by kernel_rfl) (by kernel_rfl) (fun _ _ _ h => h) (Or.inl ⟨by rfl, ?y19⟩) hHeld ?r19
                    case y19 => (intro w' hSw; skip; go_simp; (try with_reducible rfl))
                    try simp only [Act.put]
                    refine take_at (i := 10) 69 (v := ?v20) rfl rfl (by kernel_rfl) (by kernel_rfl) (by kernel_rfl) (fun _ _ _ h => h) (Or.inl ⟨by rfl, ?y20⟩) hHeld ?r20
                    case y20 => (intro w' hSw; skip; go_simp; (try with_reducible rfl))
                    try simp only [Act.put]
                    refine wpAnyH_ready (rs := [11]) (by kernel_rfl) (by simp) ?_
                    refine AllReadyH.cons rfl (fun K hK => ?_) AllReadyH.nil
                    go_simp
                    refine hK.out _ _ ?_ (fun hHeld => ?_)
                    · exact trivial
                    clear hK K
                    try simp only [Act.put, List.setIfInBounds_toArray, List.set_cons_zero, List.set_cons_succ]
                    refine wpAnyH_done (by kernel_rfl) ?_ _
                    clear hHeld k3 f3
                    have HX4 : Hid (Bx (w3.setCell ⟨w.heap.size + 1, 3, none⟩ (.slice (some ⟨g3, 0, none⟩) (tl + 1) c3)) (w.heap.size + 1) [.int .i64 1, .int .i64 i, .int .i64 2, (.slice (some ⟨g3, 0, none⟩) (tl + 1) c3), .int .i64 0, .int .i64 0, .slice none 0 0]) := HX3.out.set 3 _ (by simp)
                    have HR4 : Hid (Bx (w3.setCell ⟨w.heap.size + 1, 3, none⟩ (.slice (some ⟨g3, 0, none⟩) (tl + 1) c3)) w.heap.size [.int .i64 0, .int .i64 0, .int .i64 0, .slice none 0 0, .int .i64 0, .int .i64 0, .slice none 0 0]) := HR3.out.other _ _ (by omega)
                    have HW4 : Hid (Below w.heap.size w (w3.setCell ⟨w.heap.size + 1, 3, none⟩ (.slice (some ⟨g3, 0, none⟩) (tl + 1) c3))) := HW3.out.setCell (p := ⟨w.heap.size + 1, 3, none⟩) (by show w.heap.size ≤ w.heap.size + 1; omega) _
                    have HT4 : Hid (Tz (w3.setCell ⟨w.heap.size + 1, 3, none⟩ (.slice (some ⟨g3, 0, none⟩) (tl + 1) c3)) (w.heap.size + 2) (some ⟨g3, 0, none⟩) (tl + 1) c3 (us ++ [y])) := HT3.out.past ((Past.refl (w.heap.size + 1) w3).set 3 _) (by omega)
                    generalize w3.setCell ⟨w.heap.size + 1, 3, none⟩ (.slice (some ⟨g3, 0, none⟩) (tl + 1) c3) = w4 at *
                    clear HX3 HR3 HW3 HT3 HD3 HTb HSb HYb HXb HRb HWb
                    go_wp2_with fail
                    go_roundw
                    case rel => exact ⟨k + 1 + 1, some ⟨g3, 0, none⟩, tl + 1, c3, us ++ [y], by go_num, by omega, by omega, HX4, HR4, HW4, HT4, HRn⟩
                    case measure => simp [intOf]; omega
                  · go_simp
                    refine hK.out _ _ ?_ (fun hHeld => ?_)
                    · exact trivial
                    clear hK K
                    try simp only [Act.put, List.setIfInBounds_toArray, List.set_cons_zero, List.set_cons_succ]
                    refine wpAnyH_ready (rs := [2]) (by kernel_rfl) (by simp) ?_
                    refine AllReadyH.cons rfl (fun K hK => ?_) AllReadyH.nil
                    go_simp
                    refine hK.out _ _ ?_ (fun hHeld => ?_)
                    · exact trivial
                    clear hK K
                    try simp only [Act.put, List.setIfInBounds_toArray, List.set_cons_zero, List.set_cons_succ]
                    refine wpAnyH_ready (rs := [8]) (by kernel_rfl) (by simp) ?_
                    refine AllReadyH.cons rfl (fun K hK => ?_) AllReadyH.nil
                    refine step_app8z rfl (.tmp 61) (.tmp 66) 22 rfl (w.heap.size + 2) tl tc ta us rfl HTb (.slice (some ⟨wr.heap.size, 0, none⟩) 1 1) 1 [y] rfl (fun _ => Nat.one_pos) HSb HYb (tl + 1) rfl (us ++ [y]) rfl (by omega) hBb ?_
                    intro g3 c3 w3 HT3 HD3
                    refine hK.out _ _ ?_ (fun hHeld => ?_)
                    · exact trivial
                    clear hK K
                    try simp only [Act.put, List.setIfInBounds_toArray]
                    have HX3 : Hid (Bx w3 (w.heap.size + 1) [.int .i64 1, .int .i64 i, .int .i64 2, (.slice ta tl tc), .int .i64 0, .int .i64 0, .slice none 0 0]) := HXb.out.belowB HD3.out (by omega)
                    have HR3 : Hid (Bx w3 w.heap.size [.int .i64 0, .int .i64 0, .int .i64 0, .slice none 0 0, .int .i64 0, .int .i64 0, .slice none 0 0]) := HRb.out.belowB HD3.out (by omega)
                    have HW3 : Hid (Below w.heap.size w w3) := HWb.out.trans (HD3.out.mono (by omega))
                    have k3 := HX3.out.c 3 _ rfl
                    have f3 := HX3.out.f 3 (by simp)
                    refine take_at (i := 9) 68 (v := ?v21) rfl rfl (by kernel_rfl) (by kernel_rfl) (by kernel_rfl) (fun _ _ _ h => h) (Or.inl ⟨by rfl, ?y21⟩) hHeld ?r21
                    case y21 => (intro w' hSw; skip; go_simp; (try with_reducible rfl))
                    try simp only [Act.put]
                    refine take_at (i := 10) 69 (v := ?v22) rfl rfl (by kernel_rfl) (by kernel_rfl) (by kernel_rfl) (fun _ _ _ h => h) (Or.inl ⟨by rfl, ?y22⟩) hHeld ?r22
                    case y22 => (intro w' hSw; skip; go_simp; (try with_reducible rfl))
                    try simp only [Act.put]
                    refine wpAnyH_ready (rs := [11]) (by kernel_rfl) (by simp) ?_
                    refine AllReadyH.cons rfl (fun K hK => ?_) AllReadyH.nil
                    go_simp
                    refine hK.out _ _ ?_ (fun hHeld => ?_)
                    · exact trivial
                    clear hK K
                    try simp only [Act.put, List.setIfInBounds_toArray, List.set_cons_zero, List.set_cons_succ]
                    refine wpAnyH_done (by kernel_rfl) ?_ _
                    clear hHeld k3 f3
                    have HX4 : Hid (Bx (w3.setCell ⟨w.heap.size + 1, 3, none⟩ (.slice (some ⟨g3, 0, none⟩) (tl + 1) c3)) (w.heap.size + 1) [.int .i64 1, .int .i64 i, .int .i64 2, (.slice (some ⟨g3, 0, none⟩) (tl + 1) c3), .int .i64 0, .int .i64 0, .slice none 0 0]) := HX3.out.set 3 _ (by simp)
                    have HR4 : Hid (Bx (w3.setCell ⟨w.heap.size + 1, 3, none⟩ (.slice (some ⟨g3, 0, none⟩) (tl + 1) c3)) w.heap.size [.int .i64 0, .int .i64 0, .int .i64 0, .slice none 0 0, .int .i64 0, .int .i64 0, .slice none 0 0]) := HR3.out.other _ _ (by omega)
                    have HW4 : Hid (Below w.heap.size w (w3.setCell ⟨w.heap.size + 1, 3, none⟩ (.slice (some ⟨g3, 0, none⟩) (tl + 1) c3))) := HW3.out.setCell (p := ⟨w.heap.size + 1, 3, none⟩) (by show w.heap.size ≤ w.heap.size + 1; omega) _
                    have HT4 : Hid (Tz (w3.setCell ⟨w.heap.size + 1, 3, none⟩ (.slice (some ⟨g3, 0, none⟩) (tl + 1) c3)) (w.heap.size + 2) (some ⟨g3, 0, none⟩) (tl + 1) c3 (us ++ [y])) := HT3.out.past ((Past.refl (w.heap.size + 1) w3).set 3 _) (by omega)
                    generalize w3.setCell ⟨w.heap.size + 1, 3, none⟩ (.slice (some ⟨g3, 0, none⟩) (tl + 1) c3) = w4 at *
                    clear HX3 HR3 HW3 HT3 HD3 HTb HSb HYb HXb HRb HWb
                    go_wp2_with fail
                    go_roundw
                    case rel => exact ⟨k + 1 + 1, some ⟨g3, 0, none⟩, tl + 1, c3, us ++ [y], by go_num, by omega, by omega, HX4, HR4, HW4, HT4, HRn⟩
                    case measure => simp [intOf]; omega
            · have hya : (y != 34) = true := by simp; omega
              have hyb : (y != 92) = true := by simp; omega
              have HNO : Hid (tokOf (bs.drop i) = none) := HQ.out.1 (by rw [← HR.out, HD.out, HC92.out, hdy]; exact q_esc_no (by omega) (by omega))
              clear hdy hy HR HD HC92 hy34
              obtain ⟨z0, z1, z2, z3, z4, z5, z6⟩ := bx7 HX.out
              obtain ⟨y0, y1, y2, y3, y4, y5, y6⟩ := bx7 HRB.out
              obtain ⟨e0, e1, e2, e3, e4, e5, e6⟩ := bx7f HRB.out
              have HFIN : Hid ((⟨1, i, ⟨2, ta, tl, tc, 0, 0⟩, us, none, 0, 0, []⟩ : MT).lies _ ∧ Below w.heap.size w _) := fin7 (m := ⟨1, i, ⟨2, ta, tl, tc, 0, 0⟩, us, none, 0, 0, []⟩) (Nat.le_refl _) HRB.out ⟨HT.out.bs0, Bs0.nil _ _, fits0 _ _ _ _⟩ HW.out
              go_wp2_with fail
              refine bodyPost_ret (v := .tuple #[.agg #[.int .i64 1, .int .i64 i, .int .i64 2, .slice ta tl tc, .int .i64 0, .int .i64 0, .slice none 0 0], .int .i64 (-1)]) (by simp [results, Tryz.results124, go_sem, *]) rfl ⟨⟨⟨1, i, ⟨2, ta, tl, tc, 0, 0⟩, us, none, 0, 0, []⟩, _, rfl, HFIN.out.1, .inr ⟨HNO.out, rfl⟩⟩, HFIN.out.2⟩
          · have hnz : (len : Int) ≤ (k : Int) + 1 := by omega
            have HNO : Hid (tokOf (bs.drop i) = none) := HQ.out.1 (by rw [← HR.out, HD.out, HC92.out, List.drop_eq_nil_of_le (by have := HN.out; omega)]; exact q_esc_nil)
            clear HR HD HC92
            obtain ⟨z0, z1, z2, z3, z4, z5, z6⟩ := bx7 HX.out
            obtain ⟨y0, y1, y2, y3, y4, y5, y6⟩ := bx7 HRB.out
            obtain ⟨e0, e1, e2, e3, e4, e5, e6⟩ := bx7f HRB.out
            have HFIN : Hid ((⟨1, i, ⟨2, ta, tl, tc, 0, 0⟩, us, none, 0, 0, []⟩ : MT).lies _ ∧ Below w.heap.size w _) := fin7 (m := ⟨1, i, ⟨2, ta, tl, tc, 0, 0⟩, us, none, 0, 0, []⟩) (Nat.le_refl _) HRB.out ⟨HT.out.bs0, Bs0.nil _ _, fits0 _ _ _ _⟩ HW.out
            go_wp2_with fail
            refine bodyPost_ret (v := .tuple #[.agg #[.int .i64 1, .int .i64 i, .int .i64 2, .slice ta tl tc, .int .i64 0, .int .i64 0, .slice none 0 0], .int .i64 (-1)]) (by simp [results, Tryz.results124, go_sem, *]) rfl ⟨⟨⟨1, i, ⟨2, ta, tl, tc, 0, 0⟩, us, none, 0, 0, []⟩, _, rfl, HFIN.out.1, .inr ⟨HNO.out, rfl⟩⟩, HFIN.out.2⟩
        · have h92b : (c == 92) = false := by simp [h92]
          have HRn : Hid (qMap (us ++ [c]) (k + 1) (quoteF false (bs.drop (k + 1))) = qMap [] (i + 1) (quoteF false (bs.drop (i + 1)))) := by
            show _ = _
            rw [← HR.out, HD.out]
            exact (q_plain h34 h92).symm
          clear h34 h92 HR HD
          have HTb : Hid (Tz ((wr.alloc (.cells #[.int .u8 c] 5)).drew) (w.heap.size + 2) ta tl tc us) := HT.out.below (Below.drew (bl_a (w := wr) _))
          have HSb : Hid (Src Tryz.prog 1 22 (.slice (some ⟨wr.heap.size, 0, none⟩) 1 1) 1 (([c] : List Int).map (Value.int .u8)) ((wr.alloc (.cells #[.int .u8 c] 5)).drew)) := src_bs ((Bs0.one wr c ⟨c0, c1⟩).1.below (Below.drew (Below.refl _ _)))
          have HYb : Hid (Byt (us ++ [c])) := (byt_raw HT.out.1).app (Byt.cons (by omega) Byt.nil)
          have hBb : w.heap.size + 2 ≤ (((wr.alloc (.cells #[.int .u8 c] 5)).drew)).heap.size := by
            have h := HX.out.lt
            show w.heap.size + 2 ≤ (wr.alloc (.cells #[.int .u8 c] 5)).heap.size
            simp
            omega
          have HXb : Hid (Bx ((wr.alloc (.cells #[.int .u8 c] 5)).drew) (w.heap.size + 1) [.int .i64 1, .int .i64 i, .int .i64 2, (.slice ta tl tc), .int .i64 0, .int .i64 0, .slice none 0 0]) := HX.out.below (Below.drew (bl_a (w := wr) _))
          have HRb : Hid (Bx ((wr.alloc (.cells #[.int .u8 c] 5)).drew) w.heap.size [.int .i64 0, .int .i64 0, .int .i64 0, .slice none 0 0, .int .i64 0, .int .i64 0, .slice none 0 0]) := HRB.out.below (Below.drew (bl_a (w := wr) _))
          have HWb : Hid (Below w.heap.size w ((wr.alloc (.cells #[.int .u8 c] 5)).drew)) := bl_trans HW.out (Below.drew (bl_a (w := wr) _))
          have k3 := HX.out.c 3 _ rfl
          have k3c : (wr.alloc (.cells #[.int .u8 c] 5)).cell? ⟨w.heap.size + 1, 3, none⟩ = some (.slice ta tl tc) := (HX.out.below (bl_a _)).c 3 _ rfl
          have hne3 : ¬ w.heap.size + 1 = wr.heap.size := by have := HX.out.lt; omega
          go_wp2_with fail
          refine wp_region_held_drew (S := fun _ => True) (by kernel_rfl) trivial (fun hHeld => ?_)
          refine take_at (i := 0) 59 (v := ?v23) rfl rfl (by kernel_rfl) (by kernel_rfl) (by kernel_rfl) (fun _ _ _ h => h) (Or.inl ⟨by rfl, ?y23⟩) hHeld ?r23
          case y23 => (intro w' hSw; skip; go_simp; (try with_reducible rfl))
          try simp only [Act.put, List.setIfInBounds_toArray, List.set_cons_zero, List.set_cons_succ]
          refine take_at (i := 1) 60 (v := ?v24) rfl rfl (by kernel_rfl) (by kernel_rfl) (by kernel_rfl) (fun _ _ _ h => h) (Or.inl ⟨by rfl, ?y24⟩) hHeld ?r24
          case y24 => (intro w' hSw; skip; go_simp; (try with_reducible rfl))
          try simp only [Act.put, List.setIfInBounds_toArray, List.set_cons_zero, List.set_cons_succ]
          refine take_at (i := 3) 62 (v := ?v25) rfl rfl (by kernel_rfl) (by kernel_rfl) (by kernel_rfl) (fun _ _ _ h => h) (Or.inl ⟨by rfl, ?y25⟩) hHeld ?r25
          case y25 => (intro w' hSw; skip; go_simp; (try with_reducible rfl))
          try simp only [Act.put, List.setIfInBounds_toArray, List.set_cons_zero, List.set_cons_succ]
          refine take_at (i := 4) 63 (v := ?v26) rfl rfl (by kernel_rfl) (by kernel_rfl) (by kernel_rfl) (fun _ _ _ h => h) (Or.inl ⟨by rfl, ?y26⟩) hHeld ?r26
          case y26 => (intro w' hSw; skip; go_simp; (try with_reducible rfl))
          try simp only [Act.put, List.setIfInBounds_toArray, List.set_cons_zero, List.set_cons_succ]
          refine take_at (i := 5) 64 (v := ?v27) rfl rfl (by kernel_rfl) (by kernel_rfl) (by kernel_rfl) (fun _ _ _ h => h) (Or.inl ⟨by rfl, ?y27⟩) hHeld ?r27
          case y27 => (intro w' hSw; skip; go_simp; (try with_reducible rfl))
          try simp only [Act.put, List.setIfInBounds_toArray, List.set_cons_zero, List.set_cons_succ]
          refine wpAnyH_ready (rs := [2, 6]) (by kernel_rfl) (by simp) ?_
          refine AllReadyH.cons rfl (fun K hK => ?_) (AllReadyH.cons rfl (fun K hK => ?_) AllReadyH.nil)
          · go_simp
            refine hK.out _ _ ?_ (fun hHeld => ?_)
            · exact trivial
            clear hK K
            try simp only [Act.put, List.setIfInBounds_toArray, List.set_cons_zero, List.set_cons_succ]
            refine wpAnyH_ready (rs := [6]) (by kernel_rfl) (by simp) ?_
            refine AllReadyH.cons rfl (fun K hK => ?_) AllReadyH.nil
            go_simp
            refine hK.out _ _ ?_ (fun hHeld => ?_)
            · exact trivial
            clear hK K
            try simp only [Act.put, List.setIfInBounds_toArray, List.set_cons_zero, List.set_cons_succ]
            refine wpAnyH_ready (rs := [7]) (by kernel_rfl) (by simp) ?_
            refine AllReadyH.cons rfl (fun K hK => ?_) AllReadyH.nil
            go_simp
            refine hK.out _ _ ?_ (fun hHeld => ?_)
            · exact trivial
            clear hK K
            try simp only [Act.put, List.setIfInBounds_toArray, List.set_cons_zero, List.set_cons_succ]
            refine wpAnyH_ready (rs := [8]) (by kernel_rfl) (by simp) ?_
            refine AllReadyH.cons rfl (fun K hK => ?_) AllReadyH.nil
            refine step_app8z rfl (.tmp 61) (.tmp 66) 22 rfl (w.heap.size + 2) tl tc ta us rfl HTb (.slice (some ⟨wr.heap.size, 0, none⟩) 1 1) 1 [c] rfl (fun _ => Nat.one_pos) HSb HYb (tl + 1) rfl (us ++ [c]) rfl (by omega) hBb ?_
            intro g3 c3 w3 HT3 HD3
            refine hK.out _ _ ?_ (fun hHeld => ?_)
            · exact trivial
            clear hK K
            try simp only [Act.put, List.setIfInBounds_toArray]
            have HX3 : Hid (Bx w3 (w.heap.size + 1) [.int .i64 1, .int .i64 i, .int .i64 2, (.slice ta tl tc), .int .i64 0, .int .i64 0, .slice none 0 0]) := HXb.out.belowB HD3.out (by omega)
            have HR3 : Hid (Bx w3 w.heap.size [.int .i64 0, .int .i64 0, .int .i64 0, .slice none 0 0, .int .i64 0, .int .i64 0, .slice none 0 0]) := HRb.out.belowB HD3.out (by omega)
            have HW3 : Hid (Below w.heap.size w w3) := HWb.out.trans (HD3.out.mono (by omega))
            have k3 := HX3.out.c 3 _ rfl
            have f3 := HX3.out.f 3 (by simp)
            refine take_at (i := 9) 68 (v := ?v28) rfl rfl (by kernel_rfl) (by kernel_rfl) (by kernel_rfl) (fun _ _ _ h => h) (Or.inl ⟨by rfl, ?y28⟩) hHeld ?r28
            case y28 => (intro w' hSw; skip; go_simp; (try with_reducible rfl))
            try simp only [Act.put]
            refine take_at (i := 10) 69 (v := ?v29) rfl rfl (by kernel_rfl) (by kernel_rfl) (by kernel_rfl) (fun _ _ _ h => h) (Or.inl ⟨by rfl, ?y29⟩) hHeld ?r29
            case y29 => (intro w' hSw; skip; go_simp; (try with_reducible rfl))
            try simp only [Act.put]
            refine wpAnyH_ready (rs := [11]) (by kernel_rfl) (by simp) ?_
            refine AllReadyH.cons rfl (fun K hK => ?_) AllReadyH.nil
            go_simp
            refine hK.out _ _ ?_ (fun hHeld => ?_)
            · exact trivial
            clear hK K
            try simp only [Act.put, List.setIfInBounds_toArray, List.set_cons_zero, List.set_cons_succ]
            refine wpAnyH_done (by kernel_rfl) ?_ _
            clear hHeld k3 f3
            have HX4 : Hid (Bx (w3.setCell ⟨w.heap.size + 1, 3, none⟩ (.slice (some ⟨g3, 0, none⟩) (tl + 1) c3)) (w.heap.size + 1) [.int .i64 1, .int .i64 i, .int .i64 2, (.slice (some ⟨g3, 0, none⟩) (tl + 1) c3), .int .i64 0, .int .i64 0, .slice none 0 0]) := HX3.out.set 3 _ (by simp)
            have HR4 : Hid (Bx (w3.setCell ⟨w.heap.size + 1, 3, none⟩ (.slice (some ⟨g3, 0, none⟩) (tl + 1) c3)) w.heap.size [.int .i64 0, .int .i64 0, .int .i64 0, .slice none 0 0, .int .i64 0, .int .i64 0, .slice none 0 0]) := HR3.out.other _ _ (by omega)
            have HW4 : Hid (Below w.heap.size w (w3.setCell ⟨w.heap.size + 1, 3, none⟩ (.slice (some ⟨g3, 0, none⟩) (tl + 1) c3))) := HW3.out.setCell (p := ⟨w.heap.size + 1, 3, none⟩) (by show w.heap.size ≤ w.heap.size + 1; omega) _
            have HT4 : Hid (Tz (w3.setCell ⟨w.heap.size + 1, 3, none⟩ (.slice (some ⟨g3, 0, none⟩) (tl + 1) c3)) (w.heap.size + 2) (some ⟨g3, 0, none⟩) (tl + 1) c3 (us ++ [c])) := HT3.out.past ((Past.refl (w.heap.size + 1) w3).set 3 _) (by omega)
            generalize w3.setCell ⟨w.heap.size + 1, 3, none⟩ (.slice (some ⟨g3, 0, none⟩) (tl + 1) c3) = w4 at *
            clear HX3 HR3 HW3 HT3 HD3 HTb HSb HYb HXb HRb HWb
            go_wp2_with fail
            go_roundw
            case rel => exact ⟨k + 1, some ⟨g3, 0, none⟩, tl + 1, c3, us ++ [c], by go_num, by omega, by omega, HX4, HR4, HW4, HT4, HRn⟩
            case measure => simp [intOf]; omega
          · go_simp
            refine hK.out _ _ ?_ (fun hHeld => ?_)
            · exact trivial
            clear hK K
            try simp only [Act.put, List.setIfInBounds_toArray, List.set_cons_zero, List.set_cons_succ]
            refine wpAnyH_ready (rs := [2, 7]) (by kernel_rfl) (by simp) ?_
            refine AllReadyH.cons rfl (fun K hK => ?_) (AllReadyH.cons rfl (fun K hK => ?_) AllReadyH.nil)
            · go_simp
              refine hK.out _ _ ?_ (fun hHeld => ?_)
              · exact trivial
              clear hK K
              try simp only [Act.put, List.setIfInBounds_toArray, List.set_cons_zero, List.set_cons_succ]
              refine wpAnyH_ready (rs := [7]) (by kernel_rfl) (by simp) ?_
              refine AllReadyH.cons rfl (fun K hK => ?_) AllReadyH.nil
              go_simp
              refine hK.out _ _ ?_ (fun hHeld => ?_)
              · exact trivial
              clear hK K
              try simp only [Act.put, List.setIfInBounds_toArray, List.set_cons_zero, List.set_cons_succ]
              refine wpAnyH_ready (rs := [8]) (by kernel_rfl) (by simp) ?_
              refine AllReadyH.cons rfl (fun K hK => ?_) AllReadyH.nil
              refine step_app8z rfl (.tmp 61) (.tmp 66) 22 rfl (w.heap.size + 2) tl tc ta us rfl HTb (.slice (some ⟨wr.heap.size, 0, none⟩) 1 1) 1 [c] rfl (fun _ => Nat.one_pos) HSb HYb (tl + 1) rfl (us ++ [c]) rfl (by omega) hBb ?_
              intro g3 c3 w3 HT3 HD3
              refine hK.out _ _ ?_ (fun hHeld => ?_)
              · exact trivial
              clear hK K
              try simp only [Act.put, List.setIfInBounds_toArray]
              have HX3 : Hid (Bx w3 (w.heap.size + 1) [.int .i64 1, .int .i64 i, .int .i64 2, (.slice ta tl tc), .int .i64 0, .int .i64 0, .slice none 0 0]) := HXb.out.belowB HD3.out (by omega)
              have HR3 : Hid (Bx w3 w.heap.size [.int .i64 0, .int .i64 0, .int .i64 0, .slice none 0 0, .int .i64 0, .int .i64 0, .slice none 0 0]) := HRb.out.belowB HD3.out (by omega)
              have HW3 : Hid (Below w.heap.size w w3) := HWb.out.trans (HD3.out.mono (by omega))
              have k3 := HX3.out.c 3 _ rfl
              have f3 := HX3.out.f 3 (by simp)
              refine take_at (i := 9) 68 (v := ?v30) rfl rfl (by kernel_rfl) (by kernel_rfl) (by kernel_rfl) (fun _ _ _ h => h) (Or.inl ⟨by rfl, ?y30⟩) hHeld ?r30
              case y30 => (intro w' hSw; skip; go_simp; (try with_reducible rfl))
              try simp only [Act.put]
              refine take_at (i := 10) 69 (v := ?v31) rfl rfl (by kernel_rfl) (by kernel_rfl) (by kernel_rfl) (fun _ _ _ h => h) (Or.inl ⟨by rfl, ?y31⟩) hHeld ?r31
              case y31 => (intro w' hSw; skip; go_simp; (try with_reducible rfl))
              try simp only [Act.put]
              refine wpAnyH_ready (rs := [11]) (by kernel_rfl) (by simp) ?_
              refine AllReadyH.cons rfl (fun K hK => ?_) AllReadyH.nil
              go_simp
              refine hK.out _ _ ?_ (fun hHeld => ?_)
              · exact trivial
              clear hK K
              try simp only [Act.put, List.setIfInBounds_toArray, List.set_cons_zero, List.set_cons_succ]
              refine wpAnyH_done (by kernel_rfl) ?_ _
              clear hHeld k3 f3
              have HX4 : Hid (Bx (w3.setCell ⟨w.heap.size + 1, 3, none⟩ (.slice (some ⟨g3, 0, none⟩) (tl + 1) c3)) (w.heap.size + 1) [.int .i64 1, .int .i64 i, .int .i64 2, (.slice (some ⟨g3, 0, none⟩) (tl + 1) c3), .int .i64 0, .int .i64 0, .slice none 0 0]) := HX3.out.set 3 _ (by simp)
              have HR4 : Hid (Bx (w3.setCell ⟨w.heap.size + 1, 3, none⟩ (.slice (some ⟨g3, 0, none⟩) (tl + 1) c3)) w.heap.size [.int .i64 0, .int .i64 0, .int .i64 0, .slice none 0 0, .int .i64 0, .int .i64 0, .slice none 0 0]) := HR3.out.other _ _ (by omega)
              have HW4 : Hid (Below w.heap.size w (w3.setCell ⟨w.heap.size + 1, 3, none⟩ (.slice (some ⟨g3, 0, none⟩) (tl + 1) c3))) := HW3.out.setCell (p := ⟨w.heap.size + 1, 3, none⟩) (by show w.heap.size ≤ w.heap.size + 1; omega) _
              have HT4 : Hid (Tz (w3.setCell ⟨w.heap.size + 1, 3, none⟩ (.slice (some ⟨g3, 0, none⟩) (tl + 1) c3)) (w.heap.size + 2) (some ⟨g3, 0, none⟩) (tl + 1) c3 (us ++ [c])) := HT3.out.past ((Past.refl (w.heap.size + 1) w3).set 3 _) (by omega)
              generalize w3.setCell ⟨w.heap.size + 1, 3, none⟩ (.slice (some ⟨g3, 0, none⟩) (tl + 1) c3) = w4 at *
              clear HX3 HR3 HW3 HT3 HD3 HTb HSb HYb HXb HRb HWb
              go_wp2_with fail
              go_roundw
              case rel => exact ⟨k + 1, some ⟨g3, 0, none⟩, tl + 1, c3, us ++ [c], by go_num, by omega, by omega, HX4, HR4, HW4, HT4, HRn⟩
              case measure => simp [intOf]; omega
            · go_simp
              refine hK.out _ _ ?_ (fun hHeld => ?_)
              · exact trivial
              clear hK K
              try simp only [Act.put, List.setIfInBounds_toArray, List.set_cons_zero, List.set_cons_succ]
              refine wpAnyH_ready (rs := [2]) (by kernel_rfl) (by simp) ?_
              refine AllReadyH.cons rfl (fun K hK => ?_) AllReadyH.nil
              go_simp
              refine hK.out _ _ ?_ (fun hHeld => ?_)
              · exact trivial
              clear hK K
              try simp only [Act.put, List.setIfInBounds_toArray, List.set_cons_zero, List.set_cons_succ]
              refine wpAnyH_ready (rs := [8]) (by kernel_rfl) (by simp) ?_
              refine AllReadyH.cons rfl (fun K hK => ?_) AllReadyH.nil
              refine step_app8z rfl (.tmp 61) (.tmp 66) 22 rfl (w.heap.size + 2) tl tc ta us rfl HTb (.slice (some ⟨wr.heap.size, 0, none⟩) 1 1) 1 [c] rfl (fun _ => Nat.one_pos) HSb HYb (tl + 1) rfl (us ++ [c]) rfl (by omega) hBb ?_
              intro g3 c3 w3 HT3 HD3
              refine hK.out _ _ ?_ (fun hHeld => ?_)
              · exact trivial
              clear hK K
              try simp only [Act.put, List.setIfInBounds_toArray]
              have HX3 : Hid (Bx w3 (w.heap.size + 1) [.int .i64 1, .int .i64 i, .int .i64 2, (.slice ta tl tc), .int .i64 0, .int .i64 0, .slice none 0 0]) := HXb.out.belowB HD3.out (by omega)
              have HR3 : Hid (Bx w3 w.heap.size [.int .i64 0, .int .i64 0, .int .i64 0, .slice none 0 0, .int .i64 0, .int .i64 0, .slice none 0 0]) := HRb.out.belowB HD3.out (by omega)
              have HW3 : Hid (Below w.heap.size w w3) := HWb.out.trans (HD3.out.mono (by omega))
              have k3 := HX3.out.c 3 _ rfl
              have f3 := HX3.out.f 3 (by simp)
              refine take_at (i := 9) 68 (v := ?v32) rfl rfl (by kernel_rfl) (by kernel_rfl) (by kernel_rfl) (fun _ _ _ h => h) (Or.inl ⟨by rfl, ?y32⟩) hHeld ?r32
              case y32 => (intro w' hSw; skip; go_simp; (try with_reducible rfl))
              try simp only [Act.put]
              refine take_at (i := 10) 69 (v := ?v33) rfl rfl (by kernel_rfl) (by kernel_rfl) (by kernel_rfl) (fun _ _ _ h => h) (Or.inl ⟨by rfl, ?y33⟩) hHeld ?r33
              case y33 => (intro w' hSw; skip; go_simp; (try with_reducible rfl))
              try simp only [Act.put]
              refine wpAnyH_ready (rs := [11]) (by kernel_rfl) (by simp) ?_
              refine AllReadyH.cons rfl (fun K hK => ?_) AllReadyH.nil
              go_simp
              refine hK.out _ _ ?_ (fun hHeld => ?_)
              · exact trivial
              clear hK K
              try simp only [Act.put, List.setIfInBounds_toArray, List.set_cons_zero, List.set_cons_succ]
              refine wpAnyH_done (by kernel_rfl) ?_ _
              clear hHeld k3 f3
              have HX4 : Hid (Bx (w3.setCell ⟨w.heap.size + 1, 3, none⟩ (.slice (some ⟨g3, 0, none⟩) (tl + 1) c3)) (w.heap.size + 1) [.int .i64 1, .int .i64 i, .int .i64 2, (.slice (some ⟨g3, 0, none⟩) (tl + 1) c3), .int .i64 0, .int .i64 0, .slice none 0 0]) := HX3.out.set 3 _ (by simp)
              have HR4 : Hid (Bx (w3.setCell ⟨w.heap.size + 1, 3, none⟩ (.slice (some ⟨g3, 0, none⟩) (tl + 1) c3)) w.heap.size [.int .i64 0, .int .i64 0, .int .i64 0, .slice none 0 0, .int .i64 0, .int .i64 0, .slice none 0 0]) := HR3.out.other _ _ (by omega)
              have HW4 : Hid (Below w.heap.size w (w3.setCell ⟨w.heap.size + 1, 3, none⟩ (.slice (some ⟨g3, 0, none⟩) (tl + 1) c3))) := HW3.out.setCell (p := ⟨w.heap.size + 1, 3, none⟩) (by show w.heap.size ≤ w.heap.size + 1; omega) _
              have HT4 : Hid (Tz (w3.setCell ⟨w.heap.size + 1, 3, none⟩ (.slice (some ⟨g3, 0, none⟩) (tl + 1) c3)) (w.heap.size + 2) (some ⟨g3, 0, none⟩) (tl + 1) c3 (us ++ [c])) := HT3.out.past ((Past.refl (w.heap.size + 1) w3).set 3 _) (by omega)
              generalize w3.setCell ⟨w.heap.size + 1, 3, none⟩ (.slice (some ⟨g3, 0, none⟩) (tl + 1) c3) = w4 at *
              clear HX3 HR3 HW3 HT3 HD3 HTb HSb HYb HXb HRb HWb
              go_wp2_with fail
              go_roundw
              case rel => exact ⟨k + 1, some ⟨g3, 0, none⟩, tl + 1, c3, us ++ [c], by go_num, by omega, by omega, HX4, HR4, HW4, HT4, HRn⟩
              case measure => simp [intOf]; omega
    · have hltz : ¬ (k : Int) < (len : Int) := by omega
      have HNO : Hid (tokOf (bs.drop i) = none) := HQ.out.1 (by rw [← HR.out, List.drop_eq_nil_of_le (by have := HN.out; omega)]; exact q_nil)
      clear HR
      obtain ⟨z0, z1, z2, z3, z4, z5, z6⟩ := bx7 HX.out
      obtain ⟨y0, y1, y2, y3, y4, y5, y6⟩ := bx7 HRB.out
      obtain ⟨e0, e1, e2, e3, e4, e5, e6⟩ := bx7f HRB.out
      have HFIN : Hid ((⟨1, i, ⟨2, ta, tl, tc, 0, 0⟩, us, none, 0, 0, []⟩ : MT).lies _ ∧ Below w.heap.size w _) := fin7 (m := ⟨1, i, ⟨2, ta, tl, tc, 0, 0⟩, us, none, 0, 0, []⟩) (Nat.le_refl _) HRB.out ⟨HT.out.bs0, Bs0.nil _ _, fits0 _ _ _ _⟩ HW.out
      go_wp2_with fail
      refine bodyPost_ret (v := .tuple #[.agg #[.int .i64 1, .int .i64 i, .int .i64 2, .slice ta tl tc, .int .i64 0, .int .i64 0, .slice none 0 0], .int .i64 (-1)]) (by simp [results, Tryz.results124, go_sem, *]) rfl ⟨⟨⟨1, i, ⟨2, ta, tl, tc, 0, 0⟩, us, none, 0, 0, []⟩, _, rfl, HFIN.out.1, .inr ⟨HNO.out, rfl⟩⟩, HFIN.out.2⟩
end Go.Proofs.YtoclingolfdfeaaGreatDoor
