/- Texts put together: TxC -/
import Derived.Test.YtidhcbjhggdncaaMk20
/- TxC -/
namespace Go.Proofs.Ytidhcbjhggdncaa
open Go.RowKit Go.Deep
set_option maxRecDepth 100000

set_option maxHeartbeats 16000000 in
theorem walkTruths (a : Option Addr) (len cap : Nat) (w : World) (hlen : len ≤ 9223372036854775807) (hC : Code w a len) : Calls Try.prog 3 #[.slice a len cap] w fun r w' => r = .returned (.bool true) ∧ Below w.heap.size w w' := by
  have HCD : Hid (∀ W, Below w.heap.size w W → Code W a len) := fun W hb => by
    rcases hC with h | ⟨b, off, ha, hlt, hc⟩
    · exact .inl h
    · refine .inr ⟨b, off, ha, Nat.lt_of_lt_of_le hlt hb.size, fun i hi => ?_⟩
      rw [hb.cell (p := ⟨b, off + i, none⟩) hlt]
      exact hc i hi
  have HDV := hid (fun W (hb : Below w.heap.size w W) => DrawValue_any a len cap W hlen (HCD.out W hb))
  have HAT := hid (fun W (hb : Below w.heap.size w W) => at_any a len cap W hlen (HCD.out W hb))
  clear hC HCD
  go_in
  go_wp2_with fail
  refine (lit_value _).mono ?_
  rintro r w1 ⟨t1, rfl, _, ht1, hb1⟩
  have hn1 : (t1.t.n != 1) = false := by have h : t1.t.n = 1 := congrArg TD.n ht1; simp [h]
  have HB1 := hid (bl_trans hb1 (bl_a (.cells #[.int .i64 t1.t.k, .slice t1.t.a t1.t.len t1.t.cap, .int .i64 t1.t.n, .int .i64 t1.t.s] 24)))
  clear ht1 hb1
  go_upto_region 4 with fail
  generalize w1.alloc (.cells #[.int .i64 t1.t.k, .slice t1.t.a t1.t.len t1.t.cap, .int .i64 t1.t.n, .int .i64 t1.t.s] 24) = W1 at *
  clear hn1
  go_wp2_with fail
  refine (HDV.out _ HB1.out).mono ?_
  rintro r w2 ⟨e, x, rfl, hel, hlv, hxl, hb2⟩
  have HLV := hid hlv
  have HEL := hid hel
  have HXL := hid hxl
  have HB2 := hid (bl_trans HB1.out hb2)
  have HO5 := hid ((OB.new w2 #[.int .i64 0, .int .i64 0, .slice none 0 0, .int .i64 0, .slice none 0 0, .int .i64 0, .int .i64 0, .slice none 0 0] 29).below (bl_a (.cells #[.slice none 0 0] 32)))
  have HO7 : Hid (OB ((w2.alloc (.cells #[.int .i64 0, .int .i64 0, .slice none 0 0, .int .i64 0, .slice none 0 0, .int .i64 0, .int .i64 0, .slice none 0 0] 29)).alloc (.cells #[.slice none 0 0] 32)) (w2.heap.size + 1) [.slice none 0 0]) := (show OB _ _ _ by have h := OB.new (w2.alloc (.cells #[.int .i64 0, .int .i64 0, .slice none 0 0, .int .i64 0, .slice none 0 0, .int .i64 0, .int .i64 0, .slice none 0 0] 29)) #[.slice none 0 0] 32; simpa using h)
  have HB3 : Hid (Below w2.heap.size w2 ((w2.alloc (.cells #[.int .i64 0, .int .i64 0, .slice none 0 0, .int .i64 0, .slice none 0 0, .int .i64 0, .int .i64 0, .slice none 0 0] 29)).alloc (.cells #[.slice none 0 0] 32))) := bl_alloc (bl_a _) _
  clear hlv hel hxl hb2 HDV HB1
  have st : ((w2.alloc (.cells #[.int .i64 0, .int .i64 0, .slice none 0 0, .int .i64 0, .slice none 0 0, .int .i64 0, .int .i64 0, .slice none 0 0] 29)).alloc (.cells #[.slice none 0 0] 32)).there w2.heap.size 0 8 := HO5.out.there 0 8 (by simp)
  have on : (#[.int .i64 e.d.k, .int .i64 e.d.op, .slice e.d.v.a e.d.v.len e.d.v.cap, .int .i64 e.d.t.t.k, .slice e.d.t.t.a e.d.t.t.len e.d.t.t.cap, .int .i64 e.d.t.t.n, .int .i64 e.d.t.t.s, .slice e.d.ka e.d.n e.d.kc] : Array Value).all (·.oneCell') = true := all_oneCell_toArray (cs := [.int .i64 e.d.k, .int .i64 e.d.op, .slice e.d.v.a e.d.v.len e.d.v.cap, .int .i64 e.d.t.t.k, .slice e.d.t.t.a e.d.t.t.len e.d.t.t.cap, .int .i64 e.d.t.t.n, .int .i64 e.d.t.t.s, .slice e.d.ka e.d.n e.d.kc]) (by simp [Value.oneCell'])
  go_wp2_with (with_reducible refine wpv_at ?_; refine store_stopV 29 (.tmp 5) (.tmp 40) rfl ?_)
  change wpList _ _ _ _ _ _
  obtain ⟨b5, hb5⟩ : ∃ b, b = w2.heap.size := ⟨_, rfl⟩
  rw [← hb5] at st HO5 HO7 ⊢
  have HB5 := hid hb5
  clear hb5
  generalize ((w2.alloc (.cells #[.int .i64 0, .int .i64 0, .slice none 0 0, .int .i64 0, .slice none 0 0, .int .i64 0, .int .i64 0, .slice none 0 0] 29)).alloc (.cells #[.slice none 0 0] 32)) = W3 at *
  refine wpList_store_mid rfl 29 _ _ rfl b5 0 #[.int .i64 e.d.k, .int .i64 e.d.op, .slice e.d.v.a e.d.v.len e.d.v.cap, .int .i64 e.d.t.t.k, .slice e.d.t.t.a e.d.t.t.len e.d.t.t.cap, .int .i64 e.d.t.t.n, .int .i64 e.d.t.t.s, .slice e.d.ka e.d.n e.d.kc] rfl rfl st (by kernel_rfl) on ?_
  try simp only [Act.put]
  have HX5 : Hid (OB (W3.setCells b5 0 [.int .i64 e.d.k, .int .i64 e.d.op, .slice e.d.v.a e.d.v.len e.d.v.cap, .int .i64 e.d.t.t.k, .slice e.d.t.t.a e.d.t.t.len e.d.t.t.cap, .int .i64 e.d.t.t.n, .int .i64 e.d.t.t.s, .slice e.d.ka e.d.n e.d.kc]) b5 [.int .i64 e.d.k, .int .i64 e.d.op, .slice e.d.v.a e.d.v.len e.d.v.cap, .int .i64 e.d.t.t.k, .slice e.d.t.t.a e.d.t.t.len e.d.t.t.cap, .int .i64 e.d.t.t.n, .int .i64 e.d.t.t.s, .slice e.d.ka e.d.n e.d.kc]) := HO5.out.sets [.int .i64 e.d.k, .int .i64 e.d.op, .slice e.d.v.a e.d.v.len e.d.v.cap, .int .i64 e.d.t.t.k, .slice e.d.t.t.a e.d.t.t.len e.d.t.t.cap, .int .i64 e.d.t.t.n, .int .i64 e.d.t.t.s, .slice e.d.ka e.d.n e.d.kc] 0
  have HX7 := hid (HO7.out.but (but_sets b5 [.int .i64 e.d.k, .int .i64 e.d.op, .slice e.d.v.a e.d.v.len e.d.v.cap, .int .i64 e.d.t.t.k, .slice e.d.t.t.a e.d.t.t.len e.d.t.t.cap, .int .i64 e.d.t.t.n, .int .i64 e.d.t.t.s, .slice e.d.ka e.d.n e.d.kc] 0 W3) (by omega))
  have HB4 := hid (below_sets (w0 := w2) b5 (Nat.le_of_eq HB5.out.symm) [.int .i64 e.d.k, .int .i64 e.d.op, .slice e.d.v.a e.d.v.len e.d.v.cap, .int .i64 e.d.t.t.k, .slice e.d.t.t.a e.d.t.t.len e.d.t.t.cap, .int .i64 e.d.t.t.n, .int .i64 e.d.t.t.s, .slice e.d.ka e.d.n e.d.kc] 0 W3 HB3.out)
  generalize W3.setCells b5 0 [.int .i64 e.d.k, .int .i64 e.d.op, .slice e.d.v.a e.d.v.len e.d.v.cap, .int .i64 e.d.t.t.k, .slice e.d.t.t.a e.d.t.t.len e.d.t.t.cap, .int .i64 e.d.t.t.n, .int .i64 e.d.t.t.s, .slice e.d.ka e.d.n e.d.kc] = W4 at *
  clear st on HO5 HO7 HB3
  have st : W4.there (b5 + 1) 0 1 := HX7.out.there 0 1 (by simp)
  have on : (#[.slice x.s.a x.s.n x.s.cap] : Array Value).all (·.oneCell') = true := all_oneCell_toArray (cs := [.slice x.s.a x.s.n x.s.cap]) (by simp [Value.oneCell'])
  go_wp2_with (with_reducible refine wpv_at ?_; refine store_stopV 32 (.tmp 7) (.tmp 42) rfl ?_)
  change wpList _ _ _ _ _ _
  refine wpList_store_mid rfl 32 _ _ rfl (b5 + 1) 0 #[.slice x.s.a x.s.n x.s.cap] rfl rfl st (by kernel_rfl) on ?_
  try simp only [Act.put]
  have HY7 : Hid (OB (W4.setCells (b5 + 1) 0 [.slice x.s.a x.s.n x.s.cap]) (b5 + 1) [.slice x.s.a x.s.n x.s.cap]) := HX7.out.sets [.slice x.s.a x.s.n x.s.cap] 0
  have HY5 := hid (HX5.out.but (but_sets (b5 + 1) [.slice x.s.a x.s.n x.s.cap] 0 W4) (by omega))
  have HB6 := hid (below_sets (w0 := w2) (b5 + 1) (by have := HB5.out; omega) [.slice x.s.a x.s.n x.s.cap] 0 W4 HB4.out)
  generalize W4.setCells (b5 + 1) 0 [.slice x.s.a x.s.n x.s.cap] = W5 at *
  have HT : Hid (TU w W5 e x b5) := ⟨bl_trans HB2.out HB6.out, ⟨HY5.out.box, HEL.out.below HB6.out⟩, HY7.out.box, HXL.out.below HB6.out⟩
  clear st on HX5 HX7 HB4 HY5 HY7 HB6 HEL HXL HB2 HB5
  have le : W5.rangeAt b5 0 [.int .i64 e.d.k, .int .i64 e.d.op, .slice e.d.v.a e.d.v.len e.d.v.cap, .int .i64 e.d.t.t.k, .slice e.d.t.t.a e.d.t.t.len e.d.t.t.cap, .int .i64 e.d.t.t.n, .int .i64 e.d.t.t.s, .slice e.d.ka e.d.n e.d.kc] := HT.out.e.bx.range 0 _ rfl
  have ls : W5.rangeAt (b5 + 1) 0 [.slice x.s.a x.s.n x.s.cap] := HT.out.s.range 0 _ rfl
  obtain ⟨oe, hoe⟩ := valueIs e x
  have HIE := hid hoe
  clear hoe
  go_wp2_with (first | (with_reducible refine wpv_at ?_; refine wpList_load_mid rfl 29 _ rfl _ _ rfl [.int .i64 e.d.k, .int .i64 e.d.op, .slice e.d.v.a e.d.v.len e.d.v.cap, .int .i64 e.d.t.t.k, .slice e.d.t.t.a e.d.t.t.len e.d.t.t.cap, .int .i64 e.d.t.t.n, .int .i64 e.d.t.t.s, .slice e.d.ka e.d.n e.d.kc] _ le Try.underlying29 rfl (by kernel_rfl) ?_; try simp only [Act.put, List.setIfInBounds_toArray, List.set_cons_zero, List.set_cons_succ]) | (with_reducible refine wpv_at ?_; refine wpList_load_mid rfl 32 _ rfl _ _ rfl [.slice x.s.a x.s.n x.s.cap] _ ls Try.underlying32 rfl (by kernel_rfl) ?_; try simp only [Act.put, List.setIfInBounds_toArray, List.set_cons_zero, List.set_cons_succ]))
  refine (Value_any e x oe _ HT.out.e.l HT.out.x HIE.out).mono ?_
  rintro r w6 ⟨t6, rfl, _, _, hb6⟩
  have HB6 := hid (bl_alloc hb6 (.cells #[.int .i64 t6.t.k, .slice t6.t.a t6.t.len t6.t.cap, .int .i64 t6.t.n, .int .i64 t6.t.s] 24))
  obtain ⟨qe, hqe⟩ : ∃ q, q = oe.isSome := ⟨_, rfl⟩
  rw [← hqe]
  have HQE := hid hqe
  clear hqe hb6 le ls
  go_upto_region 6 with fail
  generalize w6.alloc (.cells #[.int .i64 t6.t.k, .slice t6.t.a t6.t.len t6.t.cap, .int .i64 t6.t.n, .int .i64 t6.t.s] 24) = W6 at *
  go_wp2_with fail
  refine (textT_any _ _ (by decide)).mono ?_
  rintro r w7 ⟨c7, rfl, hx7, hb7⟩
  have hs7 : (ByteArray.mk #[120]).size = 1 := rfl
  rw [hs7] at hx7 ⊢
  have HNB : Hid (EB (w7.alloc (.cells #[.int .i64 4, .int .i64 0, .slice (some ⟨W6.heap.size, 0, none⟩) 1 c7, .int .i64 0, .slice none 0 0, .int .i64 0, .int .i64 0, .slice none 0 0] 29)) w7.heap.size (vE 4 ⟨some ⟨W6.heap.size, 0, none⟩, 1, c7, [120]⟩) ∧ OB (w7.alloc (.cells #[.int .i64 4, .int .i64 0, .slice (some ⟨W6.heap.size, 0, none⟩) 1 c7, .int .i64 0, .slice none 0 0, .int .i64 0, .int .i64 0, .slice none 0 0] 29)) w7.heap.size [.int .i64 4, .int .i64 0, .slice (some ⟨W6.heap.size, 0, none⟩) 1 c7, .int .i64 0, .slice none 0 0, .int .i64 0, .int .i64 0, .slice none 0 0]) :=
    ⟨⟨Box.new w7 #[.int .i64 4, .int .i64 0, .slice (some ⟨W6.heap.size, 0, none⟩) 1 c7, .int .i64 0, .slice none 0 0, .int .i64 0, .int .i64 0, .slice none 0 0] 29 (0, 0), vE_lies (⟨(hx7.below (bl_a _)).1, .inr fun _ _ => Nat.zero_le _⟩ : BsF 0 _ ⟨some ⟨W6.heap.size, 0, none⟩, 1, c7, [120]⟩)⟩, OB.new w7 #[.int .i64 4, .int .i64 0, .slice (some ⟨W6.heap.size, 0, none⟩) 1 c7, .int .i64 0, .slice none 0 0, .int .i64 0, .int .i64 0, .slice none 0 0] 29⟩
  have HB7 := hid (bl_trans HB6.out (bl_alloc hb7 (.cells #[.int .i64 4, .int .i64 0, .slice (some ⟨W6.heap.size, 0, none⟩) 1 c7, .int .i64 0, .slice none 0 0, .int .i64 0, .int .i64 0, .slice none 0 0] 29)))
  have hgb : W5.heap.size ≤ w7.heap.size := Nat.le_trans HB6.out.size hb7.size
  clear hb7 hx7 hs7 HB6
  go_upto_region 7 with fail
  obtain ⟨b10, hb10⟩ : ∃ b, b = w7.heap.size := ⟨_, rfl⟩
  rw [← hb10] at HNB hgb ⊢
  obtain ⟨bb, hbb⟩ : ∃ b, b = (vE 4 ⟨some ⟨W6.heap.size, 0, none⟩, 1, c7, [120]⟩) := ⟨_, rfl⟩
  have HLB : Hid (lvE bb 1) := by rw [hbb]; exact vE_lv (List.mem_cons_self)
  have HOB : Hid (OB (w7.alloc (.cells #[.int .i64 4, .int .i64 0, .slice (some ⟨W6.heap.size, 0, none⟩) 1 c7, .int .i64 0, .slice none 0 0, .int .i64 0, .int .i64 0, .slice none 0 0] 29)) b10 [.int .i64 bb.d.k, .int .i64 bb.d.op, .slice bb.d.v.a bb.d.v.len bb.d.v.cap, .int .i64 bb.d.t.t.k, .slice bb.d.t.t.a bb.d.t.t.len bb.d.t.t.cap, .int .i64 bb.d.t.t.n, .int .i64 bb.d.t.t.s, .slice bb.d.ka bb.d.n bb.d.kc]) := by rw [hbb]; exact HNB.out.2
  have HEB : Hid (EB (w7.alloc (.cells #[.int .i64 4, .int .i64 0, .slice (some ⟨W6.heap.size, 0, none⟩) 1 c7, .int .i64 0, .slice none 0 0, .int .i64 0, .int .i64 0, .slice none 0 0] 29)) b10 bb) := by rw [hbb]; exact HNB.out.1
  clear HNB hbb hb10
  generalize w7.alloc (.cells #[.int .i64 4, .int .i64 0, .slice (some ⟨W6.heap.size, 0, none⟩) 1 c7, .int .i64 0, .slice none 0 0, .int .i64 0, .int .i64 0, .slice none 0 0] 29) = W7 at *
  go_wp2_with fail
  refine (HAT.out _ (HT.out.below HB7.out).bl).mono ?_
  rintro r w8 ⟨v8, rfl, _, _, rfl⟩
  clear HAT
  go_upto_if 55 with fail
  go_cut [10] from 23 (fun s10 wx => s10 = .pointer (some ⟨b10, 0, none⟩) ∧ ∃ bb, Hid (lvE bb 1) ∧ Hid (EB wx b10 bb) ∧ Hid (TU w wx e x b5))
  case first =>
    go_wp2_with fail
    rotate_left
    · go_meet
      exact ⟨rfl, bb, HLB, HEB, HT.out.below HB7.out⟩
    · clear HLB HEB
      refine (textT_any _ _ (by decide)).mono ?_
      rintro r w9 ⟨c9, rfl, hx9, hb9⟩
      have hs9 : (ByteArray.mk #[121]).size = 1 := rfl
      rw [hs9] at hx9 ⊢
      have HO9 := hid (HOB.out.below hb9)
      have h10 : b10 < w8.heap.size := HOB.out.1
      have st : w9.there b10 0 8 := HO9.out.there 0 8 (by simp)
      have on : (#[.int .i64 0, .int .i64 0, .slice (some ⟨w8.heap.size, 0, none⟩) 1 c9, .int .i64 0, .slice none 0 0, .int .i64 0, .int .i64 0, .slice none 0 0] : Array Value).all (·.oneCell') = true := all_oneCell_toArray (cs := [.int .i64 0, .int .i64 0, .slice (some ⟨w8.heap.size, 0, none⟩) 1 c9, .int .i64 0, .slice none 0 0, .int .i64 0, .int .i64 0, .slice none 0 0]) (by simp [Value.oneCell'])
      go_wp2_with (with_reducible refine wpv_at ?_; refine store_stopV 29 (.tmp 10) (.tmp 57) rfl ?_)
      change wpList _ _ _ _ _ _
      refine wpList_store_mid rfl 29 _ _ rfl b10 0 #[.int .i64 0, .int .i64 0, .slice (some ⟨w8.heap.size, 0, none⟩) 1 c9, .int .i64 0, .slice none 0 0, .int .i64 0, .int .i64 0, .slice none 0 0] rfl rfl st (by kernel_rfl) on ?_
      try simp only [Act.put]
      have HUP : Hid (Upper (w8.heap.size) w9 (w9.setCells b10 0 [.int .i64 0, .int .i64 0, .slice (some ⟨w8.heap.size, 0, none⟩) 1 c9, .int .i64 0, .slice none 0 0, .int .i64 0, .int .i64 0, .slice none 0 0])) := (upper_sets b10 _ 0 w9).mono (by omega)
      have HBX : Hid (Box (w9.setCells b10 0 [.int .i64 0, .int .i64 0, .slice (some ⟨w8.heap.size, 0, none⟩) 1 c9, .int .i64 0, .slice none 0 0, .int .i64 0, .int .i64 0, .slice none 0 0]) b10 [.int .i64 0, .int .i64 0, .slice (some ⟨w8.heap.size, 0, none⟩) 1 c9, .int .i64 0, .slice none 0 0, .int .i64 0, .int .i64 0, .slice none 0 0]) := (HO9.out.sets [.int .i64 0, .int .i64 0, .slice (some ⟨w8.heap.size, 0, none⟩) 1 c9, .int .i64 0, .slice none 0 0, .int .i64 0, .int .i64 0, .slice none 0 0] 0).box
      have HBE : Hid (Below W5.heap.size W5 (w9.setCells b10 0 [.int .i64 0, .int .i64 0, .slice (some ⟨w8.heap.size, 0, none⟩) 1 c9, .int .i64 0, .slice none 0 0, .int .i64 0, .int .i64 0, .slice none 0 0])) := below_sets (w0 := W5) b10 hgb _ 0 w9 (bl_trans HB7.out hb9)
      have hx9' : BsF w8.heap.size w9 ⟨some ⟨w8.heap.size, 0, none⟩, 1, c9, [121]⟩ := ⟨hx9.1, .inr fun p hp => by cases hp; exact Nat.le_refl _⟩
      have HVL : Hid ((vE 0 ⟨some ⟨w8.heap.size, 0, none⟩, 1, c9, [121]⟩).lies 0 (w9.setCells b10 0 [.int .i64 0, .int .i64 0, .slice (some ⟨w8.heap.size, 0, none⟩) 1 c9, .int .i64 0, .slice none 0 0, .int .i64 0, .int .i64 0, .slice none 0 0])) := vE_lies ((hx9'.upper HUP.out).base (Nat.zero_le _))
      generalize w9.setCells b10 0 [.int .i64 0, .int .i64 0, .slice (some ⟨w8.heap.size, 0, none⟩) 1 c9, .int .i64 0, .slice none 0 0, .int .i64 0, .int .i64 0, .slice none 0 0] = W10 at *
      clear st on
      clear hx9 hx9' hb9 hs9 HUP
      go_wp2_with fail
      go_meet
      exact ⟨rfl, vE 0 ⟨some ⟨w8.heap.size, 0, none⟩, 1, c9, [121]⟩, vE_lv (show ([121] : List Int) ∈ NM by decide), ⟨HBX.out, HVL.out⟩, HT.out.below HBE.out⟩
  case rest =>
    clear HB7 hgb HLB HEB HOB bb
    obtain ⟨rfl, b, HLB, HEB, HTc⟩ := hcut
    clear HT
    have HT := HTc
    clear HTc
    obtain ⟨W8, hW8⟩ : ∃ W, W = wc := ⟨_, rfl⟩
    subst hW8
    have le : W8.rangeAt b5 0 [.int .i64 e.d.k, .int .i64 e.d.op, .slice e.d.v.a e.d.v.len e.d.v.cap, .int .i64 e.d.t.t.k, .slice e.d.t.t.a e.d.t.t.len e.d.t.t.cap, .int .i64 e.d.t.t.n, .int .i64 e.d.t.t.s, .slice e.d.ka e.d.n e.d.kc] := HT.out.e.bx.range 0 _ rfl
    have ls : W8.rangeAt (b5 + 1) 0 [.slice x.s.a x.s.n x.s.cap] := HT.out.s.range 0 _ rfl
    go_wp2_with (with_reducible refine wpv_at ?_; refine wpList_load_mid rfl 29 _ rfl _ _ rfl [.int .i64 e.d.k, .int .i64 e.d.op, .slice e.d.v.a e.d.v.len e.d.v.cap, .int .i64 e.d.t.t.k, .slice e.d.t.t.a e.d.t.t.len e.d.t.t.cap, .int .i64 e.d.t.t.n, .int .i64 e.d.t.t.s, .slice e.d.ka e.d.n e.d.kc] _ le Try.underlying29 rfl (by kernel_rfl) ?_; try simp only [Act.put, List.setIfInBounds_toArray, List.set_cons_zero, List.set_cons_succ])
    refine (func2_row 3 0 [e] (by simp) (by simp) W8.heap.size 1 _ (RE.new W8 [e] #[.int .i64 e.d.k, .int .i64 e.d.op, .slice e.d.v.a e.d.v.len e.d.v.cap, .int .i64 e.d.t.t.k, .slice e.d.t.t.a e.d.t.t.len e.d.t.t.cap, .int .i64 e.d.t.t.n, .int .i64 e.d.t.t.s, .slice e.d.ka e.d.n e.d.kc] 29 rfl) (fun y hy => by rw [List.mem_singleton.1 hy]; exact HT.out.e.l.below (bl_a _))).mono ?_
    rintro r w9 ⟨nn, knn, cnn, HNnn, rfl, hl, hb⟩
    have HBn := hid (bl_trans (bl_a (w := W8) (.cells #[.int .i64 e.d.k, .int .i64 e.d.op, .slice e.d.v.a e.d.v.len e.d.v.cap, .int .i64 e.d.t.t.k, .slice e.d.t.t.a e.d.t.t.len e.d.t.t.cap, .int .i64 e.d.t.t.n, .int .i64 e.d.t.t.s, .slice e.d.ka e.d.n e.d.kc] 29)) (bl_alloc hb (.cells #[.int .i64 nn.d.k, .int .i64 nn.d.op, .slice nn.d.v.a nn.d.v.len nn.d.v.cap, .int .i64 nn.d.t.t.k, .slice nn.d.t.t.a nn.d.t.t.len nn.d.t.t.cap, .int .i64 nn.d.t.t.n, .int .i64 nn.d.t.t.s, .slice nn.d.ka nn.d.n nn.d.kc] 29)))
    have HEnn : Hid (EB (w9.alloc (.cells #[.int .i64 nn.d.k, .int .i64 nn.d.op, .slice nn.d.v.a nn.d.v.len nn.d.v.cap, .int .i64 nn.d.t.t.k, .slice nn.d.t.t.a nn.d.t.t.len nn.d.t.t.cap, .int .i64 nn.d.t.t.n, .int .i64 nn.d.t.t.s, .slice nn.d.ka nn.d.n nn.d.kc] 29)) w9.heap.size nn) := ⟨Box.new w9 #[.int .i64 nn.d.k, .int .i64 nn.d.op, .slice nn.d.v.a nn.d.v.len nn.d.v.cap, .int .i64 nn.d.t.t.k, .slice nn.d.t.t.a nn.d.t.t.len nn.d.t.t.cap, .int .i64 nn.d.t.t.n, .int .i64 nn.d.t.t.s, .slice nn.d.ka nn.d.n nn.d.kc] 29 (0, 0), hl.below (bl_a _)⟩
    clear hb hl
    go_upto_region 10 with fail
    obtain ⟨b11, hb11⟩ : ∃ b, b = w9.heap.size := ⟨_, rfl⟩
    rw [← hb11] at HEnn ⊢
    clear hb11
    generalize w9.alloc (.cells #[.int .i64 nn.d.k, .int .i64 nn.d.op, .slice nn.d.v.a nn.d.v.len nn.d.v.cap, .int .i64 nn.d.t.t.k, .slice nn.d.t.t.a nn.d.t.t.len nn.d.t.t.cap, .int .i64 nn.d.t.t.n, .int .i64 nn.d.t.t.s, .slice nn.d.ka nn.d.n nn.d.kc] 29) = W9 at *
    have HT9 := hid (HT.out.below HBn.out)
    have HEB9 := hid (HEB.out.below HBn.out)
    clear HBn HT HEB le ls
    have HT := HT9
    have HEB := HEB9
    clear HT9 HEB9
    have le : W9.rangeAt b5 0 [.int .i64 e.d.k, .int .i64 e.d.op, .slice e.d.v.a e.d.v.len e.d.v.cap, .int .i64 e.d.t.t.k, .slice e.d.t.t.a e.d.t.t.len e.d.t.t.cap, .int .i64 e.d.t.t.n, .int .i64 e.d.t.t.s, .slice e.d.ka e.d.n e.d.kc] := HT.out.e.bx.range 0 _ rfl
    have ls : W9.rangeAt (b5 + 1) 0 [.slice x.s.a x.s.n x.s.cap] := HT.out.s.range 0 _ rfl
    have lb : W9.rangeAt b10 0 [.int .i64 b.d.k, .int .i64 b.d.op, .slice b.d.v.a b.d.v.len b.d.v.cap, .int .i64 b.d.t.t.k, .slice b.d.t.t.a b.d.t.t.len b.d.t.t.cap, .int .i64 b.d.t.t.n, .int .i64 b.d.t.t.s, .slice b.d.ka b.d.n b.d.kc] := HEB.out.bx.range 0 _ rfl
    go_wp2_with (first | (with_reducible refine wpv_at ?_; refine wpList_load_mid rfl 29 _ rfl _ _ rfl [.int .i64 e.d.k, .int .i64 e.d.op, .slice e.d.v.a e.d.v.len e.d.v.cap, .int .i64 e.d.t.t.k, .slice e.d.t.t.a e.d.t.t.len e.d.t.t.cap, .int .i64 e.d.t.t.n, .int .i64 e.d.t.t.s, .slice e.d.ka e.d.n e.d.kc] _ le Try.underlying29 rfl (by kernel_rfl) ?_; try simp only [Act.put, List.setIfInBounds_toArray, List.set_cons_zero, List.set_cons_succ]) | (with_reducible refine wpv_at ?_; refine wpList_load_mid rfl 29 _ rfl _ _ rfl [.int .i64 b.d.k, .int .i64 b.d.op, .slice b.d.v.a b.d.v.len b.d.v.cap, .int .i64 b.d.t.t.k, .slice b.d.t.t.a b.d.t.t.len b.d.t.t.cap, .int .i64 b.d.t.t.n, .int .i64 b.d.t.t.s, .slice b.d.ka b.d.n b.d.kc] _ lb Try.underlying29 rfl (by kernel_rfl) ?_; try simp only [Act.put, List.setIfInBounds_toArray, List.set_cons_zero, List.set_cons_succ]))
    refine (func2_row 2 6 [e, b] (by simp) (by simp) W9.heap.size 2 _ (RE.new W9 [e, b] #[.int .i64 e.d.k, .int .i64 e.d.op, .slice e.d.v.a e.d.v.len e.d.v.cap, .int .i64 e.d.t.t.k, .slice e.d.t.t.a e.d.t.t.len e.d.t.t.cap, .int .i64 e.d.t.t.n, .int .i64 e.d.t.t.s, .slice e.d.ka e.d.n e.d.kc, .int .i64 b.d.k, .int .i64 b.d.op, .slice b.d.v.a b.d.v.len b.d.v.cap, .int .i64 b.d.t.t.k, .slice b.d.t.t.a b.d.t.t.len b.d.t.t.cap, .int .i64 b.d.t.t.n, .int .i64 b.d.t.t.s, .slice b.d.ka b.d.n b.d.kc] 29 rfl) (mem2 (HT.out.e.l.below (bl_a _)) (HEB.out.l.below (bl_a _)))).mono ?_
    rintro r w10 ⟨na, kna, cna, HNna, rfl, hl, hb⟩
    have HBn := hid (bl_trans (bl_a (w := W9) (.cells #[.int .i64 e.d.k, .int .i64 e.d.op, .slice e.d.v.a e.d.v.len e.d.v.cap, .int .i64 e.d.t.t.k, .slice e.d.t.t.a e.d.t.t.len e.d.t.t.cap, .int .i64 e.d.t.t.n, .int .i64 e.d.t.t.s, .slice e.d.ka e.d.n e.d.kc, .int .i64 b.d.k, .int .i64 b.d.op, .slice b.d.v.a b.d.v.len b.d.v.cap, .int .i64 b.d.t.t.k, .slice b.d.t.t.a b.d.t.t.len b.d.t.t.cap, .int .i64 b.d.t.t.n, .int .i64 b.d.t.t.s, .slice b.d.ka b.d.n b.d.kc] 29)) (bl_alloc hb (.cells #[.int .i64 na.d.k, .int .i64 na.d.op, .slice na.d.v.a na.d.v.len na.d.v.cap, .int .i64 na.d.t.t.k, .slice na.d.t.t.a na.d.t.t.len na.d.t.t.cap, .int .i64 na.d.t.t.n, .int .i64 na.d.t.t.s, .slice na.d.ka na.d.n na.d.kc] 29)))
    have HEna : Hid (EB (w10.alloc (.cells #[.int .i64 na.d.k, .int .i64 na.d.op, .slice na.d.v.a na.d.v.len na.d.v.cap, .int .i64 na.d.t.t.k, .slice na.d.t.t.a na.d.t.t.len na.d.t.t.cap, .int .i64 na.d.t.t.n, .int .i64 na.d.t.t.s, .slice na.d.ka na.d.n na.d.kc] 29)) w10.heap.size na) := ⟨Box.new w10 #[.int .i64 na.d.k, .int .i64 na.d.op, .slice na.d.v.a na.d.v.len na.d.v.cap, .int .i64 na.d.t.t.k, .slice na.d.t.t.a na.d.t.t.len na.d.t.t.cap, .int .i64 na.d.t.t.n, .int .i64 na.d.t.t.s, .slice na.d.ka na.d.n na.d.kc] 29 (0, 0), hl.below (bl_a _)⟩
    clear hb hl
    go_upto_region 11 with fail
    obtain ⟨b12, hb12⟩ : ∃ b, b = w10.heap.size := ⟨_, rfl⟩
    rw [← hb12] at HEna ⊢
    clear hb12
    generalize w10.alloc (.cells #[.int .i64 na.d.k, .int .i64 na.d.op, .slice na.d.v.a na.d.v.len na.d.v.cap, .int .i64 na.d.t.t.k, .slice na.d.t.t.a na.d.t.t.len na.d.t.t.cap, .int .i64 na.d.t.t.n, .int .i64 na.d.t.t.s, .slice na.d.ka na.d.n na.d.kc] 29) = W10 at *
    have HT9 := hid (HT.out.below HBn.out)
    have HEB9 := hid (HEB.out.below HBn.out)
    have HEnn9 := hid (HEnn.out.below HBn.out)
    clear HBn HT HEB HEnn le ls lb
    have HT := HT9
    have HEB := HEB9
    have HEnn := HEnn9
    clear HT9 HEB9 HEnn9
    go_wp2_with fail
    go_cut [13, 14] from 23 (fun sa sb wx => ∃ (g : Nat) (t : TB) (q : Bool) (o : Option TD), sa = .pointer (some ⟨g, 0, none⟩) ∧ sb = .bool q ∧ Hid (∃ ka kc, ValueIs (nd 3 0 [na] ka kc) x o) ∧ Hid (VB W10 wx g t q o))
    case first =>
      have HB0 : Hid (Below W10.heap.size W10 W10.drew) := Below.drew (Below.refl _ _)
      refine wqd (fun w' => Below W10.heap.size W10 w') ?_ fun hH0 => ?_
      · exact HB0.out
      generalize W10.drew = V0 at *
      refine ldq 0 66 Try.underlying29 (fun w' h => (HEna.out.below h).bx.range 0 [.int .i64 na.d.k, .int .i64 na.d.op, .slice na.d.v.a na.d.v.len na.d.v.cap, .int .i64 na.d.t.t.k, .slice na.d.t.t.a na.d.t.t.len na.d.t.t.cap, .int .i64 na.d.t.t.n, .int .i64 na.d.t.t.s, .slice na.d.ka na.d.n na.d.kc] rfl) ?_
      refine tqB 3 69 ?_
      refine ldq 4 70 Try.underlying32 (fun w' h => (HT.out.below h).s.range 0 [.slice x.s.a x.s.n x.s.cap] rfl) ?_
      refine wpAnyH_ready (rs := [1, 9]) (by kernel_rfl) (by simp) ?_
      refine AllReadyH.cons rfl (fun K hK => ?_) (AllReadyH.cons rfl (fun K hK => ?_) AllReadyH.nil)
      · go_simp
        refine hK.out _ _ ?_ (fun hH1 => ?_)
        · exact bl_alloc HB0.out _
        clear hK K hH0
        try simp only [Act.put, List.setIfInBounds_toArray, List.set_cons_zero, List.set_cons_succ]
        have HR1 := hid (RE.new V0 [na] #[.int .i64 na.d.k, .int .i64 na.d.op, .slice na.d.v.a na.d.v.len na.d.v.cap, .int .i64 na.d.t.t.k, .slice na.d.t.t.a na.d.t.t.len na.d.t.t.cap, .int .i64 na.d.t.t.n, .int .i64 na.d.t.t.s, .slice na.d.ka na.d.n na.d.kc] 29 rfl)
        have HB1 := hid (bl_alloc HB0.out (.cells #[.int .i64 na.d.k, .int .i64 na.d.op, .slice na.d.v.a na.d.v.len na.d.v.cap, .int .i64 na.d.t.t.k, .slice na.d.t.t.a na.d.t.t.len na.d.t.t.cap, .int .i64 na.d.t.t.n, .int .i64 na.d.t.t.s, .slice na.d.ka na.d.n na.d.kc] 29))
        obtain ⟨g1, hg1⟩ : ∃ g, g = V0.heap.size := ⟨_, rfl⟩
        rw [← hg1] at HR1 ⊢
        clear hg1 HB0 
        generalize V0.alloc (.cells #[.int .i64 na.d.k, .int .i64 na.d.op, .slice na.d.v.a na.d.v.len na.d.v.cap, .int .i64 na.d.t.t.k, .slice na.d.t.t.a na.d.t.t.len na.d.t.t.cap, .int .i64 na.d.t.t.n, .int .i64 na.d.t.t.s, .slice na.d.ka na.d.n na.d.kc] 29) = V1 at *
        refine wpAnyH_ready (rs := [2, 9]) (by kernel_rfl) (by simp) ?_
        refine AllReadyH.cons rfl (fun K hK => ?_) (AllReadyH.cons rfl (fun K hK => ?_) AllReadyH.nil)
        · go_simp
          refine (func2_row 3 0 [na] (by simp) (by simp) g1 1 _ HR1.out (fun y hy => by rw [List.mem_singleton.1 hy]; exact (HEna.out.l.below HB1.out))).mono ?_
          rintro r V2 ⟨n1, kn1, cn1, HNn1, rfl, hl, hb⟩
          have HB2 := hid (HB1.out.trans (hb.mono HB1.out.size))
          have HLn1 := hid hl
          clear hb hl HB1 hH1 HR1 
          go_wp2_with fail
          refine hK.out _ _ ?_ (fun hH2 => ?_)
          · exact HB2.out
          clear hK K
          try simp only [Act.put, List.setIfInBounds_toArray, List.set_cons_zero, List.set_cons_succ]
          refine wpAnyH_ready (rs := [5, 9]) (by kernel_rfl) (by simp) ?_
          refine AllReadyH.cons rfl (fun K hK => ?_) (AllReadyH.cons rfl (fun K hK => ?_) AllReadyH.nil)
          · obtain ⟨o, ho⟩ := valueIs n1 x
            have HI := hid ho
            clear ho
            go_simp
            refine (Value_any n1 x o _ HLn1.out (HT.out.below HB2.out).x HI.out).mono ?_
            rintro r V3 ⟨t, rfl, hV, htd, hb⟩
            have HB3 := hid (HB2.out.trans (hb.mono HB2.out.size))
            have HVV := hid hV
            have HTD := hid htd
            have HLn13 := hid (HLn1.out.below hb)
            obtain ⟨q, hq⟩ : ∃ q, q = o.isSome := ⟨_, rfl⟩
            rw [← hq]
            have HQ := hid hq
            clear hb hV htd hq HB2 hH2 HLn1
            go_wp2_with fail
            refine hK.out _ _ ?_ (fun hH3 => ?_)
            · exact HB3.out
            clear hK K
            try simp only [Act.put, List.setIfInBounds_toArray, List.set_cons_zero, List.set_cons_succ]
            refine tqB 6 65 ?_
            refine tqB 7 72 ?_
            refine tqB 8 73 ?_
            refine rqA 9 fun K hK => ?_
            go_simp
            refine hK.out _ _ ?_ (fun hHa => ?_)
            · exact bl_alloc HB3.out _
            clear hK K hH3
            try simp only [Act.put, List.setIfInBounds_toArray, List.set_cons_zero, List.set_cons_succ]
            have st : (V3.alloc (.cells #[.int .i64 0, .slice none 0 0, .int .i64 0, .int .i64 0] 24)).there V3.heap.size 0 4 := (OB.new V3 #[.int .i64 0, .slice none 0 0, .int .i64 0, .int .i64 0] 24).there 0 4 (by simp)
            have HF := hid (VB.store2 HQ.out HVV.out.1 HVV.out.2 HTD.out HB3.out)
            have on : (#[.int .i64 t.t.k, .slice t.t.a t.t.len t.t.cap, .int .i64 t.t.n, .int .i64 t.t.s] : Array Value).all (·.oneCell') = true := all_oneCell_toArray (cs := [.int .i64 t.t.k, .slice t.t.a t.t.len t.t.cap, .int .i64 t.t.n, .int .i64 t.t.s]) (by simp [Value.oneCell'])
            refine rqA 10 fun K hK => ?_
            refine step_storeV 24 V3.heap.size 0 #[.int .i64 t.t.k, .slice t.t.a t.t.len t.t.cap, .int .i64 t.t.n, .int .i64 t.t.s] st on ?_
            refine hK.out _ _ ?_ (fun hHs => ?_)
            · exact HF.out.bl
            clear hK K st on hHa
            try simp only [Act.put]
            refine tqB 11 14 ?_
            obtain ⟨gC, hgC⟩ : ∃ g, g = V3.heap.size := ⟨_, rfl⟩
            rw [← hgC] at HF ⊢
            clear hgC hHs
            refine wpAnyH_done (by kernel_rfl) ?_ _
            go_wp2_with fail
            go_meet
            exact ⟨gC, t, q, o, rfl, rfl, ⟨kn1, cn1, by rw [← HNn1.out]; exact HI.out⟩, HF⟩
          · go_simp
            refine hK.out _ _ ?_ (fun hH4 => ?_)
            · exact bl_alloc HB2.out _
            clear hK K hH2
            try simp only [Act.put, List.setIfInBounds_toArray, List.set_cons_zero, List.set_cons_succ]
            have HOn := hid (OB.new V2 #[.int .i64 0, .slice none 0 0, .int .i64 0, .int .i64 0] 24)
            have HB4 := hid (bl_alloc HB2.out (.cells #[.int .i64 0, .slice none 0 0, .int .i64 0, .int .i64 0] 24))
            have HLn14 := hid (HLn1.out.below (bl_a (w := V2) (.cells #[.int .i64 0, .slice none 0 0, .int .i64 0, .int .i64 0] 24)))
            have hGB : W10.heap.size ≤ V2.heap.size := HB2.out.size
            obtain ⟨gB, hgB⟩ : ∃ g, g = V2.heap.size := ⟨_, rfl⟩
            rw [← hgB] at HOn hGB ⊢
            have HGB := hid hGB
            clear hgB hGB HB2 HLn1
            generalize V2.alloc (.cells #[.int .i64 0, .slice none 0 0, .int .i64 0, .int .i64 0] 24) = V4 at *
            refine rqA 5 fun K hK => ?_
            obtain ⟨o, ho⟩ := valueIs n1 x
            have HI := hid ho
            clear ho
            go_simp
            refine (Value_any n1 x o _ HLn14.out (HT.out.below HB4.out).x HI.out).mono ?_
            rintro r V5 ⟨t, rfl, hV, htd, hb⟩
            have HB5 := hid (HB4.out.trans (hb.mono HB4.out.size))
            have HVV := hid hV
            have HTD := hid htd
            have HO5 := hid (HOn.out.below hb)
            have HLn15 := hid (HLn14.out.below hb)
            have HGL : Hid (gB < V4.heap.size) := (HOn).out.1
            obtain ⟨q, hq⟩ : ∃ q, q = o.isSome := ⟨_, rfl⟩
            rw [← hq]
            have HQ := hid hq
            clear hb hV htd hq HB4 hH4 HOn HLn14
            go_wp2_with fail
            refine hK.out _ _ ?_ (fun hH5 => ?_)
            · exact HB5.out
            clear hK K
            try simp only [Act.put, List.setIfInBounds_toArray, List.set_cons_zero, List.set_cons_succ]
            refine tqB 6 65 ?_
            refine tqB 7 72 ?_
            refine tqB 8 73 ?_
            have st : V5.there gB 0 4 := HO5.out.there 0 4 (by simp)
            have HF := hid (VB.store HQ.out HVV.out.1 HVV.out.2 HTD.out HO5.out HGB.out HB5.out HGL.out)
            have on : (#[.int .i64 t.t.k, .slice t.t.a t.t.len t.t.cap, .int .i64 t.t.n, .int .i64 t.t.s] : Array Value).all (·.oneCell') = true := all_oneCell_toArray (cs := [.int .i64 t.t.k, .slice t.t.a t.t.len t.t.cap, .int .i64 t.t.n, .int .i64 t.t.s]) (by simp [Value.oneCell'])
            refine rqA 10 fun K hK => ?_
            refine step_storeV 24 gB 0 #[.int .i64 t.t.k, .slice t.t.a t.t.len t.t.cap, .int .i64 t.t.n, .int .i64 t.t.s] st on ?_
            refine hK.out _ _ ?_ (fun hHs => ?_)
            · exact HF.out.bl
            clear hK K st on hH5
            try simp only [Act.put]
            refine tqB 11 14 ?_
            clear hHs
            refine wpAnyH_done (by kernel_rfl) ?_ _
            go_wp2_with fail
            go_meet
            exact ⟨gB, t, q, o, rfl, rfl, ⟨kn1, cn1, by rw [← HNn1.out]; exact HI.out⟩, HF⟩
        · go_simp
          refine hK.out _ _ ?_ (fun hH6 => ?_)
          · exact bl_alloc HB1.out _
          clear hK K hH1
          try simp only [Act.put, List.setIfInBounds_toArray, List.set_cons_zero, List.set_cons_succ]
          have HOn := hid (OB.new V1 #[.int .i64 0, .slice none 0 0, .int .i64 0, .int .i64 0] 24)
          have HB6 := hid (bl_alloc HB1.out (.cells #[.int .i64 0, .slice none 0 0, .int .i64 0, .int .i64 0] 24))
          have HR6 := hid (HR1.out.below (bl_a (w := V1) (.cells #[.int .i64 0, .slice none 0 0, .int .i64 0, .int .i64 0] 24)))
          have hGB : W10.heap.size ≤ V1.heap.size := HB1.out.size
          obtain ⟨gB, hgB⟩ : ∃ g, g = V1.heap.size := ⟨_, rfl⟩
          rw [← hgB] at HOn hGB ⊢
          have HGB := hid hGB
          clear hgB hGB HB1 HR1
          generalize V1.alloc (.cells #[.int .i64 0, .slice none 0 0, .int .i64 0, .int .i64 0] 24) = V6 at *
          refine rqA 2 fun K hK => ?_
          go_simp
          refine (func2_row 3 0 [na] (by simp) (by simp) g1 1 _ HR6.out (fun y hy => by rw [List.mem_singleton.1 hy]; exact (HEna.out.l.below HB6.out))).mono ?_
          rintro r V7 ⟨n1, kn1, cn1, HNn1, rfl, hl, hb⟩
          have HB7 := hid (HB6.out.trans (hb.mono HB6.out.size))
          have HLn1 := hid hl
          have HO7 := hid (HOn.out.below hb)
          clear hb hl HB6 hH6 HR6 HOn
          go_wp2_with fail
          refine hK.out _ _ ?_ (fun hH7 => ?_)
          · exact HB7.out
          clear hK K
          try simp only [Act.put, List.setIfInBounds_toArray, List.set_cons_zero, List.set_cons_succ]
          refine rqA 5 fun K hK => ?_
          obtain ⟨o, ho⟩ := valueIs n1 x
          have HI := hid ho
          clear ho
          go_simp
          refine (Value_any n1 x o _ HLn1.out (HT.out.below HB7.out).x HI.out).mono ?_
          rintro r V8 ⟨t, rfl, hV, htd, hb⟩
          have HB8 := hid (HB7.out.trans (hb.mono HB7.out.size))
          have HVV := hid hV
          have HTD := hid htd
          have HO8 := hid (HO7.out.below hb)
          have HLn18 := hid (HLn1.out.below hb)
          have HGL : Hid (gB < V7.heap.size) := (HO7).out.1
          obtain ⟨q, hq⟩ : ∃ q, q = o.isSome := ⟨_, rfl⟩
          rw [← hq]
          have HQ := hid hq
          clear hb hV htd hq HB7 hH7 HO7 HLn1
          go_wp2_with fail
          refine hK.out _ _ ?_ (fun hH8 => ?_)
          · exact HB8.out
          clear hK K
          try simp only [Act.put, List.setIfInBounds_toArray, List.set_cons_zero, List.set_cons_succ]
          refine tqB 6 65 ?_
          refine tqB 7 72 ?_
          refine tqB 8 73 ?_
          have st : V8.there gB 0 4 := HO8.out.there 0 4 (by simp)
          have HF := hid (VB.store HQ.out HVV.out.1 HVV.out.2 HTD.out HO8.out HGB.out HB8.out HGL.out)
          have on : (#[.int .i64 t.t.k, .slice t.t.a t.t.len t.t.cap, .int .i64 t.t.n, .int .i64 t.t.s] : Array Value).all (·.oneCell') = true := all_oneCell_toArray (cs := [.int .i64 t.t.k, .slice t.t.a t.t.len t.t.cap, .int .i64 t.t.n, .int .i64 t.t.s]) (by simp [Value.oneCell'])
          refine rqA 10 fun K hK => ?_
          refine step_storeV 24 gB 0 #[.int .i64 t.t.k, .slice t.t.a t.t.len t.t.cap, .int .i64 t.t.n, .int .i64 t.t.s] st on ?_
          refine hK.out _ _ ?_ (fun hHs => ?_)
          · exact HF.out.bl
          clear hK K st on hH8
          try simp only [Act.put]
          refine tqB 11 14 ?_
          clear hHs
          refine wpAnyH_done (by kernel_rfl) ?_ _
          go_wp2_with fail
          go_meet
          exact ⟨gB, t, q, o, rfl, rfl, ⟨kn1, cn1, by rw [← HNn1.out]; exact HI.out⟩, HF⟩
      · go_simp
        refine hK.out _ _ ?_ (fun hH9 => ?_)
        · exact bl_alloc HB0.out _
        clear hK K hH0
        try simp only [Act.put, List.setIfInBounds_toArray, List.set_cons_zero, List.set_cons_succ]
        have HOn := hid (OB.new V0 #[.int .i64 0, .slice none 0 0, .int .i64 0, .int .i64 0] 24)
        have HB9 := hid (bl_alloc HB0.out (.cells #[.int .i64 0, .slice none 0 0, .int .i64 0, .int .i64 0] 24))
        have hGB : W10.heap.size ≤ V0.heap.size := HB0.out.size
        obtain ⟨gB, hgB⟩ : ∃ g, g = V0.heap.size := ⟨_, rfl⟩
        rw [← hgB] at HOn hGB ⊢
        have HGB := hid hGB
        clear hgB hGB HB0 
        generalize V0.alloc (.cells #[.int .i64 0, .slice none 0 0, .int .i64 0, .int .i64 0] 24) = V9 at *
        refine rqA 1 fun K hK => ?_
        go_simp
        refine hK.out _ _ ?_ (fun hH10 => ?_)
        · exact bl_alloc HB9.out _
        clear hK K hH9
        try simp only [Act.put, List.setIfInBounds_toArray, List.set_cons_zero, List.set_cons_succ]
        have HR10 := hid (RE.new V9 [na] #[.int .i64 na.d.k, .int .i64 na.d.op, .slice na.d.v.a na.d.v.len na.d.v.cap, .int .i64 na.d.t.t.k, .slice na.d.t.t.a na.d.t.t.len na.d.t.t.cap, .int .i64 na.d.t.t.n, .int .i64 na.d.t.t.s, .slice na.d.ka na.d.n na.d.kc] 29 rfl)
        have HB10 := hid (bl_alloc HB9.out (.cells #[.int .i64 na.d.k, .int .i64 na.d.op, .slice na.d.v.a na.d.v.len na.d.v.cap, .int .i64 na.d.t.t.k, .slice na.d.t.t.a na.d.t.t.len na.d.t.t.cap, .int .i64 na.d.t.t.n, .int .i64 na.d.t.t.s, .slice na.d.ka na.d.n na.d.kc] 29))
        have HO10 := hid (HOn.out.below (bl_a (w := V9) (.cells #[.int .i64 na.d.k, .int .i64 na.d.op, .slice na.d.v.a na.d.v.len na.d.v.cap, .int .i64 na.d.t.t.k, .slice na.d.t.t.a na.d.t.t.len na.d.t.t.cap, .int .i64 na.d.t.t.n, .int .i64 na.d.t.t.s, .slice na.d.ka na.d.n na.d.kc] 29)))
        obtain ⟨g10, hg10⟩ : ∃ g, g = V9.heap.size := ⟨_, rfl⟩
        rw [← hg10] at HR10 ⊢
        clear hg10 HB9 HOn
        generalize V9.alloc (.cells #[.int .i64 na.d.k, .int .i64 na.d.op, .slice na.d.v.a na.d.v.len na.d.v.cap, .int .i64 na.d.t.t.k, .slice na.d.t.t.a na.d.t.t.len na.d.t.t.cap, .int .i64 na.d.t.t.n, .int .i64 na.d.t.t.s, .slice na.d.ka na.d.n na.d.kc] 29) = V10 at *
        refine rqA 2 fun K hK => ?_
        go_simp
        refine (func2_row 3 0 [na] (by simp) (by simp) g10 1 _ HR10.out (fun y hy => by rw [List.mem_singleton.1 hy]; exact (HEna.out.l.below HB10.out))).mono ?_
        rintro r V11 ⟨n1, kn1, cn1, HNn1, rfl, hl, hb⟩
        have HB11 := hid (HB10.out.trans (hb.mono HB10.out.size))
        have HLn1 := hid hl
        have HO11 := hid (HO10.out.below hb)
        clear hb hl HB10 hH10 HR10 HO10
        go_wp2_with fail
        refine hK.out _ _ ?_ (fun hH11 => ?_)
        · exact HB11.out
        clear hK K
        try simp only [Act.put, List.setIfInBounds_toArray, List.set_cons_zero, List.set_cons_succ]
        refine rqA 5 fun K hK => ?_
        obtain ⟨o, ho⟩ := valueIs n1 x
        have HI := hid ho
        clear ho
        go_simp
        refine (Value_any n1 x o _ HLn1.out (HT.out.below HB11.out).x HI.out).mono ?_
        rintro r V12 ⟨t, rfl, hV, htd, hb⟩
        have HB12 := hid (HB11.out.trans (hb.mono HB11.out.size))
        have HVV := hid hV
        have HTD := hid htd
        have HO12 := hid (HO11.out.below hb)
        have HLn112 := hid (HLn1.out.below hb)
        have HGL : Hid (gB < V11.heap.size) := (HO11).out.1
        obtain ⟨q, hq⟩ : ∃ q, q = o.isSome := ⟨_, rfl⟩
        rw [← hq]
        have HQ := hid hq
        clear hb hV htd hq HB11 hH11 HO11 HLn1
        go_wp2_with fail
        refine hK.out _ _ ?_ (fun hH12 => ?_)
        · exact HB12.out
        clear hK K
        try simp only [Act.put, List.setIfInBounds_toArray, List.set_cons_zero, List.set_cons_succ]
        refine tqB 6 65 ?_
        refine tqB 7 72 ?_
        refine tqB 8 73 ?_
        have st : V12.there gB 0 4 := HO12.out.there 0 4 (by simp)
        have HF := hid (VB.store HQ.out HVV.out.1 HVV.out.2 HTD.out HO12.out HGB.out HB12.out HGL.out)
        have on : (#[.int .i64 t.t.k, .slice t.t.a t.t.len t.t.cap, .int .i64 t.t.n, .int .i64 t.t.s] : Array Value).all (·.oneCell') = true := all_oneCell_toArray (cs := [.int .i64 t.t.k, .slice t.t.a t.t.len t.t.cap, .int .i64 t.t.n, .int .i64 t.t.s]) (by simp [Value.oneCell'])
        refine rqA 10 fun K hK => ?_
        refine step_storeV 24 gB 0 #[.int .i64 t.t.k, .slice t.t.a t.t.len t.t.cap, .int .i64 t.t.n, .int .i64 t.t.s] st on ?_
        refine hK.out _ _ ?_ (fun hHs => ?_)
        · exact HF.out.bl
        clear hK K st on hH12
        try simp only [Act.put]
        refine tqB 11 14 ?_
        clear hHs
        refine wpAnyH_done (by kernel_rfl) ?_ _
        go_wp2_with fail
        go_meet
        exact ⟨gB, t, q, o, rfl, rfl, ⟨kn1, cn1, by rw [← HNn1.out]; exact HI.out⟩, HF⟩
    case rest =>
      obtain ⟨g13, t13, q13, o13, rfl, rfl, HP13, HV13⟩ := hcut
      obtain ⟨W11, hW⟩ : ∃ W, W = wc := ⟨_, rfl⟩
      subst hW
      have HBc := hid HV13.out.bl
      have HTz := hid (HT.out.below HBc.out)
      have HEBz := hid (HEB.out.below HBc.out)
      have HEnnz := hid (HEnn.out.below HBc.out)
      have HEnaz := hid (HEna.out.below HBc.out)
      clear HBc HT HEB HEnn HEna 
      have HT := HTz
      have HEB := HEBz
      have HEnn := HEnnz
      have HEna := HEnaz
      clear HTz HEBz HEnnz HEnaz
      go_wp2_with fail
      go_cut [15, 16] from 23 (fun sa sb wx => ∃ (g : Nat) (t : TB) (q : Bool) (o : Option TD), sa = .pointer (some ⟨g, 0, none⟩) ∧ sb = .bool q ∧ Hid (∃ k4 c4 k5 c5, ValueIs (nd 2 7 [nn, nd 3 0 [b] k4 c4] k5 c5) x o) ∧ Hid (VB W11 wx g t q o))
      case first =>
        have HB0 : Hid (Below W11.heap.size W11 W11.drew) := Below.drew (Below.refl _ _)
        refine wqd (fun w' => Below W11.heap.size W11 w') ?_ fun hH0 => ?_
        · exact HB0.out
        generalize W11.drew = V0 at *
        refine ldq 0 75 Try.underlying29 (fun w' h => (HEnn.out.below h).bx.range 0 [.int .i64 nn.d.k, .int .i64 nn.d.op, .slice nn.d.v.a nn.d.v.len nn.d.v.cap, .int .i64 nn.d.t.t.k, .slice nn.d.t.t.a nn.d.t.t.len nn.d.t.t.cap, .int .i64 nn.d.t.t.n, .int .i64 nn.d.t.t.s, .slice nn.d.ka nn.d.n nn.d.kc] rfl) ?_
        refine ldq 1 76 Try.underlying29 (fun w' h => (HEB.out.below h).bx.range 0 [.int .i64 b.d.k, .int .i64 b.d.op, .slice b.d.v.a b.d.v.len b.d.v.cap, .int .i64 b.d.t.t.k, .slice b.d.t.t.a b.d.t.t.len b.d.t.t.cap, .int .i64 b.d.t.t.n, .int .i64 b.d.t.t.s, .slice b.d.ka b.d.n b.d.kc] rfl) ?_
        refine tqB 6 81 ?_
        refine ldq 7 82 Try.underlying32 (fun w' h => (HT.out.below h).s.range 0 [.slice x.s.a x.s.n x.s.cap] rfl) ?_
        refine wpAnyH_ready (rs := [2, 12]) (by kernel_rfl) (by simp) ?_
        refine AllReadyH.cons rfl (fun K hK => ?_) (AllReadyH.cons rfl (fun K hK => ?_) AllReadyH.nil)
        · go_simp
          refine hK.out _ _ ?_ (fun hH1 => ?_)
          · exact bl_alloc HB0.out _
          clear hK K hH0
          try simp only [Act.put, List.setIfInBounds_toArray, List.set_cons_zero, List.set_cons_succ]
          have HR1 := hid (RE.new V0 [b] #[.int .i64 b.d.k, .int .i64 b.d.op, .slice b.d.v.a b.d.v.len b.d.v.cap, .int .i64 b.d.t.t.k, .slice b.d.t.t.a b.d.t.t.len b.d.t.t.cap, .int .i64 b.d.t.t.n, .int .i64 b.d.t.t.s, .slice b.d.ka b.d.n b.d.kc] 29 rfl)
          have HB1 := hid (bl_alloc HB0.out (.cells #[.int .i64 b.d.k, .int .i64 b.d.op, .slice b.d.v.a b.d.v.len b.d.v.cap, .int .i64 b.d.t.t.k, .slice b.d.t.t.a b.d.t.t.len b.d.t.t.cap, .int .i64 b.d.t.t.n, .int .i64 b.d.t.t.s, .slice b.d.ka b.d.n b.d.kc] 29))
          obtain ⟨g1, hg1⟩ : ∃ g, g = V0.heap.size := ⟨_, rfl⟩
          rw [← hg1] at HR1 ⊢
          clear hg1 HB0 
          generalize V0.alloc (.cells #[.int .i64 b.d.k, .int .i64 b.d.op, .slice b.d.v.a b.d.v.len b.d.v.cap, .int .i64 b.d.t.t.k, .slice b.d.t.t.a b.d.t.t.len b.d.t.t.cap, .int .i64 b.d.t.t.n, .int .i64 b.d.t.t.s, .slice b.d.ka b.d.n b.d.kc] 29) = V1 at *
          refine wpAnyH_ready (rs := [3, 12]) (by kernel_rfl) (by simp) ?_
          refine AllReadyH.cons rfl (fun K hK => ?_) (AllReadyH.cons rfl (fun K hK => ?_) AllReadyH.nil)
          · go_simp
            refine (func2_row 3 0 [b] (by simp) (by simp) g1 1 _ HR1.out (fun y hy => by rw [List.mem_singleton.1 hy]; exact (HEB.out.l.below HB1.out))).mono ?_
            rintro r V2 ⟨n1, kn1, cn1, HNn1, rfl, hl, hb⟩
            have HB2 := hid (HB1.out.trans (hb.mono HB1.out.size))
            have HLn1 := hid hl
            clear hb hl HB1 hH1 HR1 
            go_wp2_with fail
            refine hK.out _ _ ?_ (fun hH2 => ?_)
            · exact HB2.out
            clear hK K
            try simp only [Act.put, List.setIfInBounds_toArray, List.set_cons_zero, List.set_cons_succ]
            refine wpAnyH_ready (rs := [4, 12]) (by kernel_rfl) (by simp) ?_
            refine AllReadyH.cons rfl (fun K hK => ?_) (AllReadyH.cons rfl (fun K hK => ?_) AllReadyH.nil)
            · go_simp
              refine hK.out _ _ ?_ (fun hH3 => ?_)
              · exact bl_alloc HB2.out _
              clear hK K hH2
              try simp only [Act.put, List.setIfInBounds_toArray, List.set_cons_zero, List.set_cons_succ]
              have HR3 := hid (RE.new V2 [nn, n1] #[.int .i64 nn.d.k, .int .i64 nn.d.op, .slice nn.d.v.a nn.d.v.len nn.d.v.cap, .int .i64 nn.d.t.t.k, .slice nn.d.t.t.a nn.d.t.t.len nn.d.t.t.cap, .int .i64 nn.d.t.t.n, .int .i64 nn.d.t.t.s, .slice nn.d.ka nn.d.n nn.d.kc, .int .i64 n1.d.k, .int .i64 n1.d.op, .slice n1.d.v.a n1.d.v.len n1.d.v.cap, .int .i64 n1.d.t.t.k, .slice n1.d.t.t.a n1.d.t.t.len n1.d.t.t.cap, .int .i64 n1.d.t.t.n, .int .i64 n1.d.t.t.s, .slice n1.d.ka n1.d.n n1.d.kc] 29 rfl)
              have HB3 := hid (bl_alloc HB2.out (.cells #[.int .i64 nn.d.k, .int .i64 nn.d.op, .slice nn.d.v.a nn.d.v.len nn.d.v.cap, .int .i64 nn.d.t.t.k, .slice nn.d.t.t.a nn.d.t.t.len nn.d.t.t.cap, .int .i64 nn.d.t.t.n, .int .i64 nn.d.t.t.s, .slice nn.d.ka nn.d.n nn.d.kc, .int .i64 n1.d.k, .int .i64 n1.d.op, .slice n1.d.v.a n1.d.v.len n1.d.v.cap, .int .i64 n1.d.t.t.k, .slice n1.d.t.t.a n1.d.t.t.len n1.d.t.t.cap, .int .i64 n1.d.t.t.n, .int .i64 n1.d.t.t.s, .slice n1.d.ka n1.d.n n1.d.kc] 29))
              have HLn13 := hid (HLn1.out.below (bl_a (w := V2) (.cells #[.int .i64 nn.d.k, .int .i64 nn.d.op, .slice nn.d.v.a nn.d.v.len nn.d.v.cap, .int .i64 nn.d.t.t.k, .slice nn.d.t.t.a nn.d.t.t.len nn.d.t.t.cap, .int .i64 nn.d.t.t.n, .int .i64 nn.d.t.t.s, .slice nn.d.ka nn.d.n nn.d.kc, .int .i64 n1.d.k, .int .i64 n1.d.op, .slice n1.d.v.a n1.d.v.len n1.d.v.cap, .int .i64 n1.d.t.t.k, .slice n1.d.t.t.a n1.d.t.t.len n1.d.t.t.cap, .int .i64 n1.d.t.t.n, .int .i64 n1.d.t.t.s, .slice n1.d.ka n1.d.n n1.d.kc] 29)))
              obtain ⟨g3, hg3⟩ : ∃ g, g = V2.heap.size := ⟨_, rfl⟩
              rw [← hg3] at HR3 ⊢
              clear hg3 HB2 HLn1
              generalize V2.alloc (.cells #[.int .i64 nn.d.k, .int .i64 nn.d.op, .slice nn.d.v.a nn.d.v.len nn.d.v.cap, .int .i64 nn.d.t.t.k, .slice nn.d.t.t.a nn.d.t.t.len nn.d.t.t.cap, .int .i64 nn.d.t.t.n, .int .i64 nn.d.t.t.s, .slice nn.d.ka nn.d.n nn.d.kc, .int .i64 n1.d.k, .int .i64 n1.d.op, .slice n1.d.v.a n1.d.v.len n1.d.v.cap, .int .i64 n1.d.t.t.k, .slice n1.d.t.t.a n1.d.t.t.len n1.d.t.t.cap, .int .i64 n1.d.t.t.n, .int .i64 n1.d.t.t.s, .slice n1.d.ka n1.d.n n1.d.kc] 29) = V3 at *
              refine wpAnyH_ready (rs := [5, 12]) (by kernel_rfl) (by simp) ?_
              refine AllReadyH.cons rfl (fun K hK => ?_) (AllReadyH.cons rfl (fun K hK => ?_) AllReadyH.nil)
              · go_simp
                refine (func2_row 2 7 [nn, n1] (by simp) (by simp) g3 2 _ HR3.out (mem2 (HEnn.out.l.below HB3.out) HLn13.out)).mono ?_
                rintro r V4 ⟨n2, kn2, cn2, HNn2, rfl, hl, hb⟩
                have HB4 := hid (HB3.out.trans (hb.mono HB3.out.size))
                have HLn2 := hid hl
                have HLn14 := hid (HLn13.out.below hb)
                clear hb hl HB3 hH3 HR3 HLn13
                go_wp2_with fail
                refine hK.out _ _ ?_ (fun hH4 => ?_)
                · exact HB4.out
                clear hK K
                try simp only [Act.put, List.setIfInBounds_toArray, List.set_cons_zero, List.set_cons_succ]
                refine wpAnyH_ready (rs := [8, 12]) (by kernel_rfl) (by simp) ?_
                refine AllReadyH.cons rfl (fun K hK => ?_) (AllReadyH.cons rfl (fun K hK => ?_) AllReadyH.nil)
                · obtain ⟨o, ho⟩ := valueIs n2 x
                  have HI := hid ho
                  clear ho
                  go_simp
                  refine (Value_any n2 x o _ HLn2.out (HT.out.below HB4.out).x HI.out).mono ?_
                  rintro r V5 ⟨t, rfl, hV, htd, hb⟩
                  have HB5 := hid (HB4.out.trans (hb.mono HB4.out.size))
                  have HVV := hid hV
                  have HTD := hid htd
                  have HLn15 := hid (HLn14.out.below hb)
                  have HLn25 := hid (HLn2.out.below hb)
                  obtain ⟨q, hq⟩ : ∃ q, q = o.isSome := ⟨_, rfl⟩
                  rw [← hq]
                  have HQ := hid hq
                  clear hb hV htd hq HB4 hH4 HLn14 HLn2
                  go_wp2_with fail
                  refine hK.out _ _ ?_ (fun hH5 => ?_)
                  · exact HB5.out
                  clear hK K
                  try simp only [Act.put, List.setIfInBounds_toArray, List.set_cons_zero, List.set_cons_succ]
                  refine tqB 9 74 ?_
                  refine tqB 10 84 ?_
                  refine tqB 11 85 ?_
                  refine rqA 12 fun K hK => ?_
                  go_simp
                  refine hK.out _ _ ?_ (fun hHa => ?_)
                  · exact bl_alloc HB5.out _
                  clear hK K hH5
                  try simp only [Act.put, List.setIfInBounds_toArray, List.set_cons_zero, List.set_cons_succ]
                  have st : (V5.alloc (.cells #[.int .i64 0, .slice none 0 0, .int .i64 0, .int .i64 0] 24)).there V5.heap.size 0 4 := (OB.new V5 #[.int .i64 0, .slice none 0 0, .int .i64 0, .int .i64 0] 24).there 0 4 (by simp)
                  have HF := hid (VB.store2 HQ.out HVV.out.1 HVV.out.2 HTD.out HB5.out)
                  have on : (#[.int .i64 t.t.k, .slice t.t.a t.t.len t.t.cap, .int .i64 t.t.n, .int .i64 t.t.s] : Array Value).all (·.oneCell') = true := all_oneCell_toArray (cs := [.int .i64 t.t.k, .slice t.t.a t.t.len t.t.cap, .int .i64 t.t.n, .int .i64 t.t.s]) (by simp [Value.oneCell'])
                  refine rqA 13 fun K hK => ?_
                  refine step_storeV 24 V5.heap.size 0 #[.int .i64 t.t.k, .slice t.t.a t.t.len t.t.cap, .int .i64 t.t.n, .int .i64 t.t.s] st on ?_
                  refine hK.out _ _ ?_ (fun hHs => ?_)
                  · exact HF.out.bl
                  clear hK K st on hHa
                  try simp only [Act.put]
                  refine tqB 14 16 ?_
                  obtain ⟨gC, hgC⟩ : ∃ g, g = V5.heap.size := ⟨_, rfl⟩
                  rw [← hgC] at HF ⊢
                  clear hgC hHs
                  refine wpAnyH_done (by kernel_rfl) ?_ _
                  go_wp2_with fail
                  go_meet
                  exact ⟨gC, t, q, o, rfl, rfl, ⟨kn1, cn1, kn2, cn2, by rw [← HNn1.out, ← HNn2.out]; exact HI.out⟩, HF⟩
                · go_simp
                  refine hK.out _ _ ?_ (fun hH6 => ?_)
                  · exact bl_alloc HB4.out _
                  clear hK K hH4
                  try simp only [Act.put, List.setIfInBounds_toArray, List.set_cons_zero, List.set_cons_succ]
                  have HOn := hid (OB.new V4 #[.int .i64 0, .slice none 0 0, .int .i64 0, .int .i64 0] 24)
                  have HB6 := hid (bl_alloc HB4.out (.cells #[.int .i64 0, .slice none 0 0, .int .i64 0, .int .i64 0] 24))
                  have HLn16 := hid (HLn14.out.below (bl_a (w := V4) (.cells #[.int .i64 0, .slice none 0 0, .int .i64 0, .int .i64 0] 24)))
                  have HLn26 := hid (HLn2.out.below (bl_a (w := V4) (.cells #[.int .i64 0, .slice none 0 0, .int .i64 0, .int .i64 0] 24)))
                  have hGB : W11.heap.size ≤ V4.heap.size := HB4.out.size
                  obtain ⟨gB, hgB⟩ : ∃ g, g = V4.heap.size := ⟨_, rfl⟩
                  rw [← hgB] at HOn hGB ⊢
                  have HGB := hid hGB
                  clear hgB hGB HB4 HLn14 HLn2
                  generalize V4.alloc (.cells #[.int .i64 0, .slice none 0 0, .int .i64 0, .int .i64 0] 24) = V6 at *
                  refine rqA 8 fun K hK => ?_
                  obtain ⟨o, ho⟩ := valueIs n2 x
                  have HI := hid ho
                  clear ho
                  go_simp
                  refine (Value_any n2 x o _ HLn26.out (HT.out.below HB6.out).x HI.out).mono ?_
                  rintro r V7 ⟨t, rfl, hV, htd, hb⟩
                  have HB7 := hid (HB6.out.trans (hb.mono HB6.out.size))
                  have HVV := hid hV
                  have HTD := hid htd
                  have HO7 := hid (HOn.out.below hb)
                  have HLn17 := hid (HLn16.out.below hb)
                  have HLn27 := hid (HLn26.out.below hb)
                  have HGL : Hid (gB < V6.heap.size) := (HOn).out.1
                  obtain ⟨q, hq⟩ : ∃ q, q = o.isSome := ⟨_, rfl⟩
                  rw [← hq]
                  have HQ := hid hq
                  clear hb hV htd hq HB6 hH6 HOn HLn16 HLn26
                  go_wp2_with fail
                  refine hK.out _ _ ?_ (fun hH7 => ?_)
                  · exact HB7.out
                  clear hK K
                  try simp only [Act.put, List.setIfInBounds_toArray, List.set_cons_zero, List.set_cons_succ]
                  refine tqB 9 74 ?_
                  refine tqB 10 84 ?_
                  refine tqB 11 85 ?_
                  have st : V7.there gB 0 4 := HO7.out.there 0 4 (by simp)
                  have HF := hid (VB.store HQ.out HVV.out.1 HVV.out.2 HTD.out HO7.out HGB.out HB7.out HGL.out)
                  have on : (#[.int .i64 t.t.k, .slice t.t.a t.t.len t.t.cap, .int .i64 t.t.n, .int .i64 t.t.s] : Array Value).all (·.oneCell') = true := all_oneCell_toArray (cs := [.int .i64 t.t.k, .slice t.t.a t.t.len t.t.cap, .int .i64 t.t.n, .int .i64 t.t.s]) (by simp [Value.oneCell'])
                  refine rqA 13 fun K hK => ?_
                  refine step_storeV 24 gB 0 #[.int .i64 t.t.k, .slice t.t.a t.t.len t.t.cap, .int .i64 t.t.n, .int .i64 t.t.s] st on ?_
                  refine hK.out _ _ ?_ (fun hHs => ?_)
                  · exact HF.out.bl
                  clear hK K st on hH7
                  try simp only [Act.put]
                  refine tqB 14 16 ?_
                  clear hHs
                  refine wpAnyH_done (by kernel_rfl) ?_ _
                  go_wp2_with fail
                  go_meet
                  exact ⟨gB, t, q, o, rfl, rfl, ⟨kn1, cn1, kn2, cn2, by rw [← HNn1.out, ← HNn2.out]; exact HI.out⟩, HF⟩
              · go_simp
                refine hK.out _ _ ?_ (fun hH8 => ?_)
                · exact bl_alloc HB3.out _
                clear hK K hH3
                try simp only [Act.put, List.setIfInBounds_toArray, List.set_cons_zero, List.set_cons_succ]
                have HOn := hid (OB.new V3 #[.int .i64 0, .slice none 0 0, .int .i64 0, .int .i64 0] 24)
                have HB8 := hid (bl_alloc HB3.out (.cells #[.int .i64 0, .slice none 0 0, .int .i64 0, .int .i64 0] 24))
                have HLn18 := hid (HLn13.out.below (bl_a (w := V3) (.cells #[.int .i64 0, .slice none 0 0, .int .i64 0, .int .i64 0] 24)))
                have HR8 := hid (HR3.out.below (bl_a (w := V3) (.cells #[.int .i64 0, .slice none 0 0, .int .i64 0, .int .i64 0] 24)))
                have hGB : W11.heap.size ≤ V3.heap.size := HB3.out.size
                obtain ⟨gB, hgB⟩ : ∃ g, g = V3.heap.size := ⟨_, rfl⟩
                rw [← hgB] at HOn hGB ⊢
                have HGB := hid hGB
                clear hgB hGB HB3 HLn13 HR3
                generalize V3.alloc (.cells #[.int .i64 0, .slice none 0 0, .int .i64 0, .int .i64 0] 24) = V8 at *
                refine rqA 5 fun K hK => ?_
                go_simp
                refine (func2_row 2 7 [nn, n1] (by simp) (by simp) g3 2 _ HR8.out (mem2 (HEnn.out.l.below HB8.out) HLn18.out)).mono ?_
                rintro r V9 ⟨n2, kn2, cn2, HNn2, rfl, hl, hb⟩
                have HB9 := hid (HB8.out.trans (hb.mono HB8.out.size))
                have HLn2 := hid hl
                have HO9 := hid (HOn.out.below hb)
                have HLn19 := hid (HLn18.out.below hb)
                clear hb hl HB8 hH8 HR8 HOn HLn18
                go_wp2_with fail
                refine hK.out _ _ ?_ (fun hH9 => ?_)
                · exact HB9.out
                clear hK K
                try simp only [Act.put, List.setIfInBounds_toArray, List.set_cons_zero, List.set_cons_succ]
                refine rqA 8 fun K hK => ?_
                obtain ⟨o, ho⟩ := valueIs n2 x
                have HI := hid ho
                clear ho
                go_simp
                refine (Value_any n2 x o _ HLn2.out (HT.out.below HB9.out).x HI.out).mono ?_
                rintro r V10 ⟨t, rfl, hV, htd, hb⟩
                have HB10 := hid (HB9.out.trans (hb.mono HB9.out.size))
                have HVV := hid hV
                have HTD := hid htd
                have HO10 := hid (HO9.out.below hb)
                have HLn110 := hid (HLn19.out.below hb)
                have HLn210 := hid (HLn2.out.below hb)
                have HGL : Hid (gB < V9.heap.size) := (HO9).out.1
                obtain ⟨q, hq⟩ : ∃ q, q = o.isSome := ⟨_, rfl⟩
                rw [← hq]
                have HQ := hid hq
                clear hb hV htd hq HB9 hH9 HO9 HLn19 HLn2
                go_wp2_with fail
                refine hK.out _ _ ?_ (fun hH10 => ?_)
                · exact HB10.out
                clear hK K
                try simp only [Act.put, List.setIfInBounds_toArray, List.set_cons_zero, List.set_cons_succ]
                refine tqB 9 74 ?_
                refine tqB 10 84 ?_
                refine tqB 11 85 ?_
                have st : V10.there gB 0 4 := HO10.out.there 0 4 (by simp)
                have HF := hid (VB.store HQ.out HVV.out.1 HVV.out.2 HTD.out HO10.out HGB.out HB10.out HGL.out)
                have on : (#[.int .i64 t.t.k, .slice t.t.a t.t.len t.t.cap, .int .i64 t.t.n, .int .i64 t.t.s] : Array Value).all (·.oneCell') = true := all_oneCell_toArray (cs := [.int .i64 t.t.k, .slice t.t.a t.t.len t.t.cap, .int .i64 t.t.n, .int .i64 t.t.s]) (by simp [Value.oneCell'])
                refine rqA 13 fun K hK => ?_
                refine step_storeV 24 gB 0 #[.int .i64 t.t.k, .slice t.t.a t.t.len t.t.cap, .int .i64 t.t.n, .int .i64 t.t.s] st on ?_
                refine hK.out _ _ ?_ (fun hHs => ?_)
                · exact HF.out.bl
                clear hK K st on hH10
                try simp only [Act.put]
                refine tqB 14 16 ?_
                clear hHs
                refine wpAnyH_done (by kernel_rfl) ?_ _
                go_wp2_with fail
                go_meet
                exact ⟨gB, t, q, o, rfl, rfl, ⟨kn1, cn1, kn2, cn2, by rw [← HNn1.out, ← HNn2.out]; exact HI.out⟩, HF⟩
            · go_simp
              refine hK.out _ _ ?_ (fun hH11 => ?_)
              · exact bl_alloc HB2.out _
              clear hK K hH2
              try simp only [Act.put, List.setIfInBounds_toArray, List.set_cons_zero, List.set_cons_succ]
              have HOn := hid (OB.new V2 #[.int .i64 0, .slice none 0 0, .int .i64 0, .int .i64 0] 24)
              have HB11 := hid (bl_alloc HB2.out (.cells #[.int .i64 0, .slice none 0 0, .int .i64 0, .int .i64 0] 24))
              have HLn111 := hid (HLn1.out.below (bl_a (w := V2) (.cells #[.int .i64 0, .slice none 0 0, .int .i64 0, .int .i64 0] 24)))
              have hGB : W11.heap.size ≤ V2.heap.size := HB2.out.size
              obtain ⟨gB, hgB⟩ : ∃ g, g = V2.heap.size := ⟨_, rfl⟩
              rw [← hgB] at HOn hGB ⊢
              have HGB := hid hGB
              clear hgB hGB HB2 HLn1
              generalize V2.alloc (.cells #[.int .i64 0, .slice none 0 0, .int .i64 0, .int .i64 0] 24) = V11 at *
              refine rqA 4 fun K hK => ?_
              go_simp
              refine hK.out _ _ ?_ (fun hH12 => ?_)
              · exact bl_alloc HB11.out _
              clear hK K hH11
              try simp only [Act.put, List.setIfInBounds_toArray, List.set_cons_zero, List.set_cons_succ]
              have HR12 := hid (RE.new V11 [nn, n1] #[.int .i64 nn.d.k, .int .i64 nn.d.op, .slice nn.d.v.a nn.d.v.len nn.d.v.cap, .int .i64 nn.d.t.t.k, .slice nn.d.t.t.a nn.d.t.t.len nn.d.t.t.cap, .int .i64 nn.d.t.t.n, .int .i64 nn.d.t.t.s, .slice nn.d.ka nn.d.n nn.d.kc, .int .i64 n1.d.k, .int .i64 n1.d.op, .slice n1.d.v.a n1.d.v.len n1.d.v.cap, .int .i64 n1.d.t.t.k, .slice n1.d.t.t.a n1.d.t.t.len n1.d.t.t.cap, .int .i64 n1.d.t.t.n, .int .i64 n1.d.t.t.s, .slice n1.d.ka n1.d.n n1.d.kc] 29 rfl)
              have HB12 := hid (bl_alloc HB11.out (.cells #[.int .i64 nn.d.k, .int .i64 nn.d.op, .slice nn.d.v.a nn.d.v.len nn.d.v.cap, .int .i64 nn.d.t.t.k, .slice nn.d.t.t.a nn.d.t.t.len nn.d.t.t.cap, .int .i64 nn.d.t.t.n, .int .i64 nn.d.t.t.s, .slice nn.d.ka nn.d.n nn.d.kc, .int .i64 n1.d.k, .int .i64 n1.d.op, .slice n1.d.v.a n1.d.v.len n1.d.v.cap, .int .i64 n1.d.t.t.k, .slice n1.d.t.t.a n1.d.t.t.len n1.d.t.t.cap, .int .i64 n1.d.t.t.n, .int .i64 n1.d.t.t.s, .slice n1.d.ka n1.d.n n1.d.kc] 29))
              have HO12 := hid (HOn.out.below (bl_a (w := V11) (.cells #[.int .i64 nn.d.k, .int .i64 nn.d.op, .slice nn.d.v.a nn.d.v.len nn.d.v.cap, .int .i64 nn.d.t.t.k, .slice nn.d.t.t.a nn.d.t.t.len nn.d.t.t.cap, .int .i64 nn.d.t.t.n, .int .i64 nn.d.t.t.s, .slice nn.d.ka nn.d.n nn.d.kc, .int .i64 n1.d.k, .int .i64 n1.d.op, .slice n1.d.v.a n1.d.v.len n1.d.v.cap, .int .i64 n1.d.t.t.k, .slice n1.d.t.t.a n1.d.t.t.len n1.d.t.t.cap, .int .i64 n1.d.t.t.n, .int .i64 n1.d.t.t.s, .slice n1.d.ka n1.d.n n1.d.kc] 29)))
              have HLn112 := hid (HLn111.out.below (bl_a (w := V11) (.cells #[.int .i64 nn.d.k, .int .i64 nn.d.op, .slice nn.d.v.a nn.d.v.len nn.d.v.cap, .int .i64 nn.d.t.t.k, .slice nn.d.t.t.a nn.d.t.t.len nn.d.t.t.cap, .int .i64 nn.d.t.t.n, .int .i64 nn.d.t.t.s, .slice nn.d.ka nn.d.n nn.d.kc, .int .i64 n1.d.k, .int .i64 n1.d.op, .slice n1.d.v.a n1.d.v.len n1.d.v.cap, .int .i64 n1.d.t.t.k, .slice n1.d.t.t.a n1.d.t.t.len n1.d.t.t.cap, .int .i64 n1.d.t.t.n, .int .i64 n1.d.t.t.s, .slice n1.d.ka n1.d.n n1.d.kc] 29)))
              obtain ⟨g12, hg12⟩ : ∃ g, g = V11.heap.size := ⟨_, rfl⟩
              rw [← hg12] at HR12 ⊢
              clear hg12 HB11 HOn HLn111
              generalize V11.alloc (.cells #[.int .i64 nn.d.k, .int .i64 nn.d.op, .slice nn.d.v.a nn.d.v.len nn.d.v.cap, .int .i64 nn.d.t.t.k, .slice nn.d.t.t.a nn.d.t.t.len nn.d.t.t.cap, .int .i64 nn.d.t.t.n, .int .i64 nn.d.t.t.s, .slice nn.d.ka nn.d.n nn.d.kc, .int .i64 n1.d.k, .int .i64 n1.d.op, .slice n1.d.v.a n1.d.v.len n1.d.v.cap, .int .i64 n1.d.t.t.k, .slice n1.d.t.t.a n1.d.t.t.len n1.d.t.t.cap, .int .i64 n1.d.t.t.n, .int .i64 n1.d.t.t.s, .slice n1.d.ka n1.d.n n1.d.kc] 29) = V12 at *
              refine rqA 5 fun K hK => ?_
              go_simp
              refine (func2_row 2 7 [nn, n1] (by simp) (by simp) g12 2 _ HR12.out (mem2 (HEnn.out.l.below HB12.out) HLn112.out)).mono ?_
              rintro r V13 ⟨n2, kn2, cn2, HNn2, rfl, hl, hb⟩
              have HB13 := hid (HB12.out.trans (hb.mono HB12.out.size))
              have HLn2 := hid hl
              have HO13 := hid (HO12.out.below hb)
              have HLn113 := hid (HLn112.out.below hb)
              clear hb hl HB12 hH12 HR12 HO12 HLn112
              go_wp2_with fail
              refine hK.out _ _ ?_ (fun hH13 => ?_)
              · exact HB13.out
              clear hK K
              try simp only [Act.put, List.setIfInBounds_toArray, List.set_cons_zero, List.set_cons_succ]
              refine rqA 8 fun K hK => ?_
              obtain ⟨o, ho⟩ := valueIs n2 x
              have HI := hid ho
              clear ho
              go_simp
              refine (Value_any n2 x o _ HLn2.out (HT.out.below HB13.out).x HI.out).mono ?_
              rintro r V14 ⟨t, rfl, hV, htd, hb⟩
              have HB14 := hid (HB13.out.trans (hb.mono HB13.out.size))
              have HVV := hid hV
              have HTD := hid htd
              have HO14 := hid (HO13.out.below hb)
              have HLn114 := hid (HLn113.out.below hb)
              have HLn214 := hid (HLn2.out.below hb)
              have HGL : Hid (gB < V13.heap.size) := (HO13).out.1
              obtain ⟨q, hq⟩ : ∃ q, q = o.isSome := ⟨_, rfl⟩
              rw [← hq]
              have HQ := hid hq
              clear hb hV htd hq HB13 hH13 HO13 HLn113 HLn2
              go_wp2_with fail
              refine hK.out _ _ ?_ (fun hH14 => ?_)
              · exact HB14.out
              clear hK K
              try simp only [Act.put, List.setIfInBounds_toArray, List.set_cons_zero, List.set_cons_succ]
              refine tqB 9 74 ?_
              refine tqB 10 84 ?_
              refine tqB 11 85 ?_
              have st : V14.there gB 0 4 := HO14.out.there 0 4 (by simp)
              have HF := hid (VB.store HQ.out HVV.out.1 HVV.out.2 HTD.out HO14.out HGB.out HB14.out HGL.out)
              have on : (#[.int .i64 t.t.k, .slice t.t.a t.t.len t.t.cap, .int .i64 t.t.n, .int .i64 t.t.s] : Array Value).all (·.oneCell') = true := all_oneCell_toArray (cs := [.int .i64 t.t.k, .slice t.t.a t.t.len t.t.cap, .int .i64 t.t.n, .int .i64 t.t.s]) (by simp [Value.oneCell'])
              refine rqA 13 fun K hK => ?_
              refine step_storeV 24 gB 0 #[.int .i64 t.t.k, .slice t.t.a t.t.len t.t.cap, .int .i64 t.t.n, .int .i64 t.t.s] st on ?_
              refine hK.out _ _ ?_ (fun hHs => ?_)
              · exact HF.out.bl
              clear hK K st on hH14
              try simp only [Act.put]
              refine tqB 14 16 ?_
              clear hHs
              refine wpAnyH_done (by kernel_rfl) ?_ _
              go_wp2_with fail
              go_meet
              exact ⟨gB, t, q, o, rfl, rfl, ⟨kn1, cn1, kn2, cn2, by rw [← HNn1.out, ← HNn2.out]; exact HI.out⟩, HF⟩
          · go_simp
            refine hK.out _ _ ?_ (fun hH15 => ?_)
            · exact bl_alloc HB1.out _
            clear hK K hH1
            try simp only [Act.put, List.setIfInBounds_toArray, List.set_cons_zero, List.set_cons_succ]
            have HOn := hid (OB.new V1 #[.int .i64 0, .slice none 0 0, .int .i64 0, .int .i64 0] 24)
            have HB15 := hid (bl_alloc HB1.out (.cells #[.int .i64 0, .slice none 0 0, .int .i64 0, .int .i64 0] 24))
            have HR15 := hid (HR1.out.below (bl_a (w := V1) (.cells #[.int .i64 0, .slice none 0 0, .int .i64 0, .int .i64 0] 24)))
            have hGB : W11.heap.size ≤ V1.heap.size := HB1.out.size
            obtain ⟨gB, hgB⟩ : ∃ g, g = V1.heap.size := ⟨_, rfl⟩
            rw [← hgB] at HOn hGB ⊢
            have HGB := hid hGB
            clear hgB hGB HB1 HR1
            generalize V1.alloc (.cells #[.int .i64 0, .slice none 0 0, .int .i64 0, .int .i64 0] 24) = V15 at *
            refine rqA 3 fun K hK => ?_
            go_simp
            refine (func2_row 3 0 [b] (by simp) (by simp) g1 1 _ HR15.out (fun y hy => by rw [List.mem_singleton.1 hy]; exact (HEB.out.l.below HB15.out))).mono ?_
            rintro r V16 ⟨n1, kn1, cn1, HNn1, rfl, hl, hb⟩
            have HB16 := hid (HB15.out.trans (hb.mono HB15.out.size))
            have HLn1 := hid hl
            have HO16 := hid (HOn.out.below hb)
            clear hb hl HB15 hH15 HR15 HOn
            go_wp2_with fail
            refine hK.out _ _ ?_ (fun hH16 => ?_)
            · exact HB16.out
            clear hK K
            try simp only [Act.put, List.setIfInBounds_toArray, List.set_cons_zero, List.set_cons_succ]
            refine rqA 4 fun K hK => ?_
            go_simp
            refine hK.out _ _ ?_ (fun hH17 => ?_)
            · exact bl_alloc HB16.out _
            clear hK K hH16
            try simp only [Act.put, List.setIfInBounds_toArray, List.set_cons_zero, List.set_cons_succ]
            have HR17 := hid (RE.new V16 [nn, n1] #[.int .i64 nn.d.k, .int .i64 nn.d.op, .slice nn.d.v.a nn.d.v.len nn.d.v.cap, .int .i64 nn.d.t.t.k, .slice nn.d.t.t.a nn.d.t.t.len nn.d.t.t.cap, .int .i64 nn.d.t.t.n, .int .i64 nn.d.t.t.s, .slice nn.d.ka nn.d.n nn.d.kc, .int .i64 n1.d.k, .int .i64 n1.d.op, .slice n1.d.v.a n1.d.v.len n1.d.v.cap, .int .i64 n1.d.t.t.k, .slice n1.d.t.t.a n1.d.t.t.len n1.d.t.t.cap, .int .i64 n1.d.t.t.n, .int .i64 n1.d.t.t.s, .slice n1.d.ka n1.d.n n1.d.kc] 29 rfl)
            have HB17 := hid (bl_alloc HB16.out (.cells #[.int .i64 nn.d.k, .int .i64 nn.d.op, .slice nn.d.v.a nn.d.v.len nn.d.v.cap, .int .i64 nn.d.t.t.k, .slice nn.d.t.t.a nn.d.t.t.len nn.d.t.t.cap, .int .i64 nn.d.t.t.n, .int .i64 nn.d.t.t.s, .slice nn.d.ka nn.d.n nn.d.kc, .int .i64 n1.d.k, .int .i64 n1.d.op, .slice n1.d.v.a n1.d.v.len n1.d.v.cap, .int .i64 n1.d.t.t.k, .slice n1.d.t.t.a n1.d.t.t.len n1.d.t.t.cap, .int .i64 n1.d.t.t.n, .int .i64 n1.d.t.t.s, .slice n1.d.ka n1.d.n n1.d.kc] 29))
            have HO17 := hid (HO16.out.below (bl_a (w := V16) (.cells #[.int .i64 nn.d.k, .int .i64 nn.d.op, .slice nn.d.v.a nn.d.v.len nn.d.v.cap, .int .i64 nn.d.t.t.k, .slice nn.d.t.t.a nn.d.t.t.len nn.d.t.t.cap, .int .i64 nn.d.t.t.n, .int .i64 nn.d.t.t.s, .slice nn.d.ka nn.d.n nn.d.kc, .int .i64 n1.d.k, .int .i64 n1.d.op, .slice n1.d.v.a n1.d.v.len n1.d.v.cap, .int .i64 n1.d.t.t.k, .slice n1.d.t.t.a n1.d.t.t.len n1.d.t.t.cap, .int .i64 n1.d.t.t.n, .int .i64 n1.d.t.t.s, .slice n1.d.ka n1.d.n n1.d.kc] 29)))
            have HLn117 := hid (HLn1.out.below (bl_a (w := V16) (.cells #[.int .i64 nn.d.k, .int .i64 nn.d.op, .slice nn.d.v.a nn.d.v.len nn.d.v.cap, .int .i64 nn.d.t.t.k, .slice nn.d.t.t.a nn.d.t.t.len nn.d.t.t.cap, .int .i64 nn.d.t.t.n, .int .i64 nn.d.t.t.s, .slice nn.d.ka nn.d.n nn.d.kc, .int .i64 n1.d.k, .int .i64 n1.d.op, .slice n1.d.v.a n1.d.v.len n1.d.v.cap, .int .i64 n1.d.t.t.k, .slice n1.d.t.t.a n1.d.t.t.len n1.d.t.t.cap, .int .i64 n1.d.t.t.n, .int .i64 n1.d.t.t.s, .slice n1.d.ka n1.d.n n1.d.kc] 29)))
            obtain ⟨g17, hg17⟩ : ∃ g, g = V16.heap.size := ⟨_, rfl⟩
            rw [← hg17] at HR17 ⊢
            clear hg17 HB16 HO16 HLn1
            generalize V16.alloc (.cells #[.int .i64 nn.d.k, .int .i64 nn.d.op, .slice nn.d.v.a nn.d.v.len nn.d.v.cap, .int .i64 nn.d.t.t.k, .slice nn.d.t.t.a nn.d.t.t.len nn.d.t.t.cap, .int .i64 nn.d.t.t.n, .int .i64 nn.d.t.t.s, .slice nn.d.ka nn.d.n nn.d.kc, .int .i64 n1.d.k, .int .i64 n1.d.op, .slice n1.d.v.a n1.d.v.len n1.d.v.cap, .int .i64 n1.d.t.t.k, .slice n1.d.t.t.a n1.d.t.t.len n1.d.t.t.cap, .int .i64 n1.d.t.t.n, .int .i64 n1.d.t.t.s, .slice n1.d.ka n1.d.n n1.d.kc] 29) = V17 at *
            refine rqA 5 fun K hK => ?_
            go_simp
            refine (func2_row 2 7 [nn, n1] (by simp) (by simp) g17 2 _ HR17.out (mem2 (HEnn.out.l.below HB17.out) HLn117.out)).mono ?_
            rintro r V18 ⟨n2, kn2, cn2, HNn2, rfl, hl, hb⟩
            have HB18 := hid (HB17.out.trans (hb.mono HB17.out.size))
            have HLn2 := hid hl
            have HO18 := hid (HO17.out.below hb)
            have HLn118 := hid (HLn117.out.below hb)
            clear hb hl HB17 hH17 HR17 HO17 HLn117
            go_wp2_with fail
            refine hK.out _ _ ?_ (fun hH18 => ?_)
            · exact HB18.out
            clear hK K
            try simp only [Act.put, List.setIfInBounds_toArray, List.set_cons_zero, List.set_cons_succ]
            refine rqA 8 fun K hK => ?_
            obtain ⟨o, ho⟩ := valueIs n2 x
            have HI := hid ho
            clear ho
            go_simp
            refine (Value_any n2 x o _ HLn2.out (HT.out.below HB18.out).x HI.out).mono ?_
            rintro r V19 ⟨t, rfl, hV, htd, hb⟩
            have HB19 := hid (HB18.out.trans (hb.mono HB18.out.size))
            have HVV := hid hV
            have HTD := hid htd
            have HO19 := hid (HO18.out.below hb)
            have HLn119 := hid (HLn118.out.below hb)
            have HLn219 := hid (HLn2.out.below hb)
            have HGL : Hid (gB < V18.heap.size) := (HO18).out.1
            obtain ⟨q, hq⟩ : ∃ q, q = o.isSome := ⟨_, rfl⟩
            rw [← hq]
            have HQ := hid hq
            clear hb hV htd hq HB18 hH18 HO18 HLn118 HLn2
            go_wp2_with fail
            refine hK.out _ _ ?_ (fun hH19 => ?_)
            · exact HB19.out
            clear hK K
            try simp only [Act.put, List.setIfInBounds_toArray, List.set_cons_zero, List.set_cons_succ]
            refine tqB 9 74 ?_
            refine tqB 10 84 ?_
            refine tqB 11 85 ?_
            have st : V19.there gB 0 4 := HO19.out.there 0 4 (by simp)
            have HF := hid (VB.store HQ.out HVV.out.1 HVV.out.2 HTD.out HO19.out HGB.out HB19.out HGL.out)
            have on : (#[.int .i64 t.t.k, .slice t.t.a t.t.len t.t.cap, .int .i64 t.t.n, .int .i64 t.t.s] : Array Value).all (·.oneCell') = true := all_oneCell_toArray (cs := [.int .i64 t.t.k, .slice t.t.a t.t.len t.t.cap, .int .i64 t.t.n, .int .i64 t.t.s]) (by simp [Value.oneCell'])
            refine rqA 13 fun K hK => ?_
            refine step_storeV 24 gB 0 #[.int .i64 t.t.k, .slice t.t.a t.t.len t.t.cap, .int .i64 t.t.n, .int .i64 t.t.s] st on ?_
            refine hK.out _ _ ?_ (fun hHs => ?_)
            · exact HF.out.bl
            clear hK K st on hH19
            try simp only [Act.put]
            refine tqB 14 16 ?_
            clear hHs
            refine wpAnyH_done (by kernel_rfl) ?_ _
            go_wp2_with fail
            go_meet
            exact ⟨gB, t, q, o, rfl, rfl, ⟨kn1, cn1, kn2, cn2, by rw [← HNn1.out, ← HNn2.out]; exact HI.out⟩, HF⟩
        · go_simp
          refine hK.out _ _ ?_ (fun hH20 => ?_)
          · exact bl_alloc HB0.out _
          clear hK K hH0
          try simp only [Act.put, List.setIfInBounds_toArray, List.set_cons_zero, List.set_cons_succ]
          have HOn := hid (OB.new V0 #[.int .i64 0, .slice none 0 0, .int .i64 0, .int .i64 0] 24)
          have HB20 := hid (bl_alloc HB0.out (.cells #[.int .i64 0, .slice none 0 0, .int .i64 0, .int .i64 0] 24))
          have hGB : W11.heap.size ≤ V0.heap.size := HB0.out.size
          obtain ⟨gB, hgB⟩ : ∃ g, g = V0.heap.size := ⟨_, rfl⟩
          rw [← hgB] at HOn hGB ⊢
          have HGB := hid hGB
          clear hgB hGB HB0 
          generalize V0.alloc (.cells #[.int .i64 0, .slice none 0 0, .int .i64 0, .int .i64 0] 24) = V20 at *
          refine rqA 2 fun K hK => ?_
          go_simp
          refine hK.out _ _ ?_ (fun hH21 => ?_)
          · exact bl_alloc HB20.out _
          clear hK K hH20
          try simp only [Act.put, List.setIfInBounds_toArray, List.set_cons_zero, List.set_cons_succ]
          have HR21 := hid (RE.new V20 [b] #[.int .i64 b.d.k, .int .i64 b.d.op, .slice b.d.v.a b.d.v.len b.d.v.cap, .int .i64 b.d.t.t.k, .slice b.d.t.t.a b.d.t.t.len b.d.t.t.cap, .int .i64 b.d.t.t.n, .int .i64 b.d.t.t.s, .slice b.d.ka b.d.n b.d.kc] 29 rfl)
          have HB21 := hid (bl_alloc HB20.out (.cells #[.int .i64 b.d.k, .int .i64 b.d.op, .slice b.d.v.a b.d.v.len b.d.v.cap, .int .i64 b.d.t.t.k, .slice b.d.t.t.a b.d.t.t.len b.d.t.t.cap, .int .i64 b.d.t.t.n, .int .i64 b.d.t.t.s, .slice b.d.ka b.d.n b.d.kc] 29))
          have HO21 := hid (HOn.out.below (bl_a (w := V20) (.cells #[.int .i64 b.d.k, .int .i64 b.d.op, .slice b.d.v.a b.d.v.len b.d.v.cap, .int .i64 b.d.t.t.k, .slice b.d.t.t.a b.d.t.t.len b.d.t.t.cap, .int .i64 b.d.t.t.n, .int .i64 b.d.t.t.s, .slice b.d.ka b.d.n b.d.kc] 29)))
          obtain ⟨g21, hg21⟩ : ∃ g, g = V20.heap.size := ⟨_, rfl⟩
          rw [← hg21] at HR21 ⊢
          clear hg21 HB20 HOn
          generalize V20.alloc (.cells #[.int .i64 b.d.k, .int .i64 b.d.op, .slice b.d.v.a b.d.v.len b.d.v.cap, .int .i64 b.d.t.t.k, .slice b.d.t.t.a b.d.t.t.len b.d.t.t.cap, .int .i64 b.d.t.t.n, .int .i64 b.d.t.t.s, .slice b.d.ka b.d.n b.d.kc] 29) = V21 at *
          refine rqA 3 fun K hK => ?_
          go_simp
          refine (func2_row 3 0 [b] (by simp) (by simp) g21 1 _ HR21.out (fun y hy => by rw [List.mem_singleton.1 hy]; exact (HEB.out.l.below HB21.out))).mono ?_
          rintro r V22 ⟨n1, kn1, cn1, HNn1, rfl, hl, hb⟩
          have HB22 := hid (HB21.out.trans (hb.mono HB21.out.size))
          have HLn1 := hid hl
          have HO22 := hid (HO21.out.below hb)
          clear hb hl HB21 hH21 HR21 HO21
          go_wp2_with fail
          refine hK.out _ _ ?_ (fun hH22 => ?_)
          · exact HB22.out
          clear hK K
          try simp only [Act.put, List.setIfInBounds_toArray, List.set_cons_zero, List.set_cons_succ]
          refine rqA 4 fun K hK => ?_
          go_simp
          refine hK.out _ _ ?_ (fun hH23 => ?_)
          · exact bl_alloc HB22.out _
          clear hK K hH22
          try simp only [Act.put, List.setIfInBounds_toArray, List.set_cons_zero, List.set_cons_succ]
          have HR23 := hid (RE.new V22 [nn, n1] #[.int .i64 nn.d.k, .int .i64 nn.d.op, .slice nn.d.v.a nn.d.v.len nn.d.v.cap, .int .i64 nn.d.t.t.k, .slice nn.d.t.t.a nn.d.t.t.len nn.d.t.t.cap, .int .i64 nn.d.t.t.n, .int .i64 nn.d.t.t.s, .slice nn.d.ka nn.d.n nn.d.kc, .int .i64 n1.d.k, .int .i64 n1.d.op, .slice n1.d.v.a n1.d.v.len n1.d.v.cap, .int .i64 n1.d.t.t.k, .slice n1.d.t.t.a n1.d.t.t.len n1.d.t.t.cap, .int .i64 n1.d.t.t.n, .int .i64 n1.d.t.t.s, .slice n1.d.ka n1.d.n n1.d.kc] 29 rfl)
          have HB23 := hid (bl_alloc HB22.out (.cells #[.int .i64 nn.d.k, .int .i64 nn.d.op, .slice nn.d.v.a nn.d.v.len nn.d.v.cap, .int .i64 nn.d.t.t.k, .slice nn.d.t.t.a nn.d.t.t.len nn.d.t.t.cap, .int .i64 nn.d.t.t.n, .int .i64 nn.d.t.t.s, .slice nn.d.ka nn.d.n nn.d.kc, .int .i64 n1.d.k, .int .i64 n1.d.op, .slice n1.d.v.a n1.d.v.len n1.d.v.cap, .int .i64 n1.d.t.t.k, .slice n1.d.t.t.a n1.d.t.t.len n1.d.t.t.cap, .int .i64 n1.d.t.t.n, .int .i64 n1.d.t.t.s, .slice n1.d.ka n1.d.n n1.d.kc] 29))
          have HO23 := hid (HO22.out.below (bl_a (w := V22) (.cells #[.int .i64 nn.d.k, .int .i64 nn.d.op, .slice nn.d.v.a nn.d.v.len nn.d.v.cap, .int .i64 nn.d.t.t.k, .slice nn.d.t.t.a nn.d.t.t.len nn.d.t.t.cap, .int .i64 nn.d.t.t.n, .int .i64 nn.d.t.t.s, .slice nn.d.ka nn.d.n nn.d.kc, .int .i64 n1.d.k, .int .i64 n1.d.op, .slice n1.d.v.a n1.d.v.len n1.d.v.cap, .int .i64 n1.d.t.t.k, .slice n1.d.t.t.a n1.d.t.t.len n1.d.t.t.cap, .int .i64 n1.d.t.t.n, .int .i64 n1.d.t.t.s, .slice n1.d.ka n1.d.n n1.d.kc] 29)))
          have HLn123 := hid (HLn1.out.below (bl_a (w := V22) (.cells #[.int .i64 nn.d.k, .int .i64 nn.d.op, .slice nn.d.v.a nn.d.v.len nn.d.v.cap, .int .i64 nn.d.t.t.k, .slice nn.d.t.t.a nn.d.t.t.len nn.d.t.t.cap, .int .i64 nn.d.t.t.n, .int .i64 nn.d.t.t.s, .slice nn.d.ka nn.d.n nn.d.kc, .int .i64 n1.d.k, .int .i64 n1.d.op, .slice n1.d.v.a n1.d.v.len n1.d.v.cap, .int .i64 n1.d.t.t.k, .slice n1.d.t.t.a n1.d.t.t.len n1.d.t.t.cap, .int .i64 n1.d.t.t.n, .int .i64 n1.d.t.t.s, .slice n1.d.ka n1.d.n n1.d.kc] 29)))
          obtain ⟨g23, hg23⟩ : ∃ g, g = V22.heap.size := ⟨_, rfl⟩
          rw [← hg23] at HR23 ⊢
          clear hg23 HB22 HO22 HLn1
          generalize V22.alloc (.cells #[.int .i64 nn.d.k, .int .i64 nn.d.op, .slice nn.d.v.a nn.d.v.len nn.d.v.cap, .int .i64 nn.d.t.t.k, .slice nn.d.t.t.a nn.d.t.t.len nn.d.t.t.cap, .int .i64 nn.d.t.t.n, .int .i64 nn.d.t.t.s, .slice nn.d.ka nn.d.n nn.d.kc, .int .i64 n1.d.k, .int .i64 n1.d.op, .slice n1.d.v.a n1.d.v.len n1.d.v.cap, .int .i64 n1.d.t.t.k, .slice n1.d.t.t.a n1.d.t.t.len n1.d.t.t.cap, .int .i64 n1.d.t.t.n, .int .i64 n1.d.t.t.s, .slice n1.d.ka n1.d.n n1.d.kc] 29) = V23 at *
          refine rqA 5 fun K hK => ?_
          go_simp
          refine (func2_row 2 7 [nn, n1] (by simp) (by simp) g23 2 _ HR23.out (mem2 (HEnn.out.l.below HB23.out) HLn123.out)).mono ?_
          rintro r V24 ⟨n2, kn2, cn2, HNn2, rfl, hl, hb⟩
          have HB24 := hid (HB23.out.trans (hb.mono HB23.out.size))
          have HLn2 := hid hl
          have HO24 := hid (HO23.out.below hb)
          have HLn124 := hid (HLn123.out.below hb)
          clear hb hl HB23 hH23 HR23 HO23 HLn123
          go_wp2_with fail
          refine hK.out _ _ ?_ (fun hH24 => ?_)
          · exact HB24.out
          clear hK K
          try simp only [Act.put, List.setIfInBounds_toArray, List.set_cons_zero, List.set_cons_succ]
          refine rqA 8 fun K hK => ?_
          obtain ⟨o, ho⟩ := valueIs n2 x
          have HI := hid ho
          clear ho
          go_simp
          refine (Value_any n2 x o _ HLn2.out (HT.out.below HB24.out).x HI.out).mono ?_
          rintro r V25 ⟨t, rfl, hV, htd, hb⟩
          have HB25 := hid (HB24.out.trans (hb.mono HB24.out.size))
          have HVV := hid hV
          have HTD := hid htd
          have HO25 := hid (HO24.out.below hb)
          have HLn125 := hid (HLn124.out.below hb)
          have HLn225 := hid (HLn2.out.below hb)
          have HGL : Hid (gB < V24.heap.size) := (HO24).out.1
          obtain ⟨q, hq⟩ : ∃ q, q = o.isSome := ⟨_, rfl⟩
          rw [← hq]
          have HQ := hid hq
          clear hb hV htd hq HB24 hH24 HO24 HLn124 HLn2
          go_wp2_with fail
          refine hK.out _ _ ?_ (fun hH25 => ?_)
          · exact HB25.out
          clear hK K
          try simp only [Act.put, List.setIfInBounds_toArray, List.set_cons_zero, List.set_cons_succ]
          refine tqB 9 74 ?_
          refine tqB 10 84 ?_
          refine tqB 11 85 ?_
          have st : V25.there gB 0 4 := HO25.out.there 0 4 (by simp)
          have HF := hid (VB.store HQ.out HVV.out.1 HVV.out.2 HTD.out HO25.out HGB.out HB25.out HGL.out)
          have on : (#[.int .i64 t.t.k, .slice t.t.a t.t.len t.t.cap, .int .i64 t.t.n, .int .i64 t.t.s] : Array Value).all (·.oneCell') = true := all_oneCell_toArray (cs := [.int .i64 t.t.k, .slice t.t.a t.t.len t.t.cap, .int .i64 t.t.n, .int .i64 t.t.s]) (by simp [Value.oneCell'])
          refine rqA 13 fun K hK => ?_
          refine step_storeV 24 gB 0 #[.int .i64 t.t.k, .slice t.t.a t.t.len t.t.cap, .int .i64 t.t.n, .int .i64 t.t.s] st on ?_
          refine hK.out _ _ ?_ (fun hHs => ?_)
          · exact HF.out.bl
          clear hK K st on hH25
          try simp only [Act.put]
          refine tqB 14 16 ?_
          clear hHs
          refine wpAnyH_done (by kernel_rfl) ?_ _
          go_wp2_with fail
          go_meet
          exact ⟨gB, t, q, o, rfl, rfl, ⟨kn1, cn1, kn2, cn2, by rw [← HNn1.out, ← HNn2.out]; exact HI.out⟩, HF⟩
      case rest =>
        obtain ⟨g15, t15, q15, o15, rfl, rfl, HP15, HV15⟩ := hcut
        obtain ⟨W12, hW⟩ : ∃ W, W = wc := ⟨_, rfl⟩
        subst hW
        have HBc := hid HV15.out.bl
        have HTz := hid (HT.out.below HBc.out)
        have HEBz := hid (HEB.out.below HBc.out)
        have HEnaz := hid (HEna.out.below HBc.out)
        have HV13z := hid (HV13.out.below HBc.out)
        clear HBc HT HEB HEna HV13 HEnn
        have HT := HTz
        have HEB := HEBz
        have HEna := HEnaz
        have HV13 := HV13z
        clear HTz HEBz HEnaz HV13z
        go_wp2_with fail
        go_cut [17, 18] from 23 (fun sa sb wx => ∃ (g : Nat) (t : TB) (q : Bool) (o : Option TD), sa = .pointer (some ⟨g, 0, none⟩) ∧ sb = .bool q ∧ Hid (∃ ka kc, ValueIs (nd 2 6 [b, e] ka kc) x o) ∧ Hid (VB W12 wx g t q o))
        case first =>
          have HB0 : Hid (Below W12.heap.size W12 W12.drew) := Below.drew (Below.refl _ _)
          refine wqd (fun w' => Below W12.heap.size W12 w') ?_ fun hH0 => ?_
          · exact HB0.out
          generalize W12.drew = V0 at *
          refine ldq 0 87 Try.underlying29 (fun w' h => (HEB.out.below h).bx.range 0 [.int .i64 b.d.k, .int .i64 b.d.op, .slice b.d.v.a b.d.v.len b.d.v.cap, .int .i64 b.d.t.t.k, .slice b.d.t.t.a b.d.t.t.len b.d.t.t.cap, .int .i64 b.d.t.t.n, .int .i64 b.d.t.t.s, .slice b.d.ka b.d.n b.d.kc] rfl) ?_
          refine ldq 1 88 Try.underlying29 (fun w' h => (HT.out.below h).e.bx.range 0 [.int .i64 e.d.k, .int .i64 e.d.op, .slice e.d.v.a e.d.v.len e.d.v.cap, .int .i64 e.d.t.t.k, .slice e.d.t.t.a e.d.t.t.len e.d.t.t.cap, .int .i64 e.d.t.t.n, .int .i64 e.d.t.t.s, .slice e.d.ka e.d.n e.d.kc] rfl) ?_
          refine tqB 4 91 ?_
          refine ldq 5 92 Try.underlying32 (fun w' h => (HT.out.below h).s.range 0 [.slice x.s.a x.s.n x.s.cap] rfl) ?_
          refine wpAnyH_ready (rs := [2, 10]) (by kernel_rfl) (by simp) ?_
          refine AllReadyH.cons rfl (fun K hK => ?_) (AllReadyH.cons rfl (fun K hK => ?_) AllReadyH.nil)
          · go_simp
            refine hK.out _ _ ?_ (fun hH1 => ?_)
            · exact bl_alloc HB0.out _
            clear hK K hH0
            try simp only [Act.put, List.setIfInBounds_toArray, List.set_cons_zero, List.set_cons_succ]
            have HR1 := hid (RE.new V0 [b, e] #[.int .i64 b.d.k, .int .i64 b.d.op, .slice b.d.v.a b.d.v.len b.d.v.cap, .int .i64 b.d.t.t.k, .slice b.d.t.t.a b.d.t.t.len b.d.t.t.cap, .int .i64 b.d.t.t.n, .int .i64 b.d.t.t.s, .slice b.d.ka b.d.n b.d.kc, .int .i64 e.d.k, .int .i64 e.d.op, .slice e.d.v.a e.d.v.len e.d.v.cap, .int .i64 e.d.t.t.k, .slice e.d.t.t.a e.d.t.t.len e.d.t.t.cap, .int .i64 e.d.t.t.n, .int .i64 e.d.t.t.s, .slice e.d.ka e.d.n e.d.kc] 29 rfl)
            have HB1 := hid (bl_alloc HB0.out (.cells #[.int .i64 b.d.k, .int .i64 b.d.op, .slice b.d.v.a b.d.v.len b.d.v.cap, .int .i64 b.d.t.t.k, .slice b.d.t.t.a b.d.t.t.len b.d.t.t.cap, .int .i64 b.d.t.t.n, .int .i64 b.d.t.t.s, .slice b.d.ka b.d.n b.d.kc, .int .i64 e.d.k, .int .i64 e.d.op, .slice e.d.v.a e.d.v.len e.d.v.cap, .int .i64 e.d.t.t.k, .slice e.d.t.t.a e.d.t.t.len e.d.t.t.cap, .int .i64 e.d.t.t.n, .int .i64 e.d.t.t.s, .slice e.d.ka e.d.n e.d.kc] 29))
            obtain ⟨g1, hg1⟩ : ∃ g, g = V0.heap.size := ⟨_, rfl⟩
            rw [← hg1] at HR1 ⊢
            clear hg1 HB0 
            generalize V0.alloc (.cells #[.int .i64 b.d.k, .int .i64 b.d.op, .slice b.d.v.a b.d.v.len b.d.v.cap, .int .i64 b.d.t.t.k, .slice b.d.t.t.a b.d.t.t.len b.d.t.t.cap, .int .i64 b.d.t.t.n, .int .i64 b.d.t.t.s, .slice b.d.ka b.d.n b.d.kc, .int .i64 e.d.k, .int .i64 e.d.op, .slice e.d.v.a e.d.v.len e.d.v.cap, .int .i64 e.d.t.t.k, .slice e.d.t.t.a e.d.t.t.len e.d.t.t.cap, .int .i64 e.d.t.t.n, .int .i64 e.d.t.t.s, .slice e.d.ka e.d.n e.d.kc] 29) = V1 at *
            refine wpAnyH_ready (rs := [3, 10]) (by kernel_rfl) (by simp) ?_
            refine AllReadyH.cons rfl (fun K hK => ?_) (AllReadyH.cons rfl (fun K hK => ?_) AllReadyH.nil)
            · go_simp
              refine (func2_row 2 6 [b, e] (by simp) (by simp) g1 2 _ HR1.out (mem2 (HEB.out.l.below HB1.out) (HT.out.e.l.below HB1.out))).mono ?_
              rintro r V2 ⟨n1, kn1, cn1, HNn1, rfl, hl, hb⟩
              have HB2 := hid (HB1.out.trans (hb.mono HB1.out.size))
              have HLn1 := hid hl
              clear hb hl HB1 hH1 HR1 
              go_wp2_with fail
              refine hK.out _ _ ?_ (fun hH2 => ?_)
              · exact HB2.out
              clear hK K
              try simp only [Act.put, List.setIfInBounds_toArray, List.set_cons_zero, List.set_cons_succ]
              refine wpAnyH_ready (rs := [6, 10]) (by kernel_rfl) (by simp) ?_
              refine AllReadyH.cons rfl (fun K hK => ?_) (AllReadyH.cons rfl (fun K hK => ?_) AllReadyH.nil)
              · obtain ⟨o, ho⟩ := valueIs n1 x
                have HI := hid ho
                clear ho
                go_simp
                refine (Value_any n1 x o _ HLn1.out (HT.out.below HB2.out).x HI.out).mono ?_
                rintro r V3 ⟨t, rfl, hV, htd, hb⟩
                have HB3 := hid (HB2.out.trans (hb.mono HB2.out.size))
                have HVV := hid hV
                have HTD := hid htd
                have HLn13 := hid (HLn1.out.below hb)
                obtain ⟨q, hq⟩ : ∃ q, q = o.isSome := ⟨_, rfl⟩
                rw [← hq]
                have HQ := hid hq
                clear hb hV htd hq HB2 hH2 HLn1
                go_wp2_with fail
                refine hK.out _ _ ?_ (fun hH3 => ?_)
                · exact HB3.out
                clear hK K
                try simp only [Act.put, List.setIfInBounds_toArray, List.set_cons_zero, List.set_cons_succ]
                refine tqB 7 86 ?_
                refine tqB 8 94 ?_
                refine tqB 9 95 ?_
                refine rqA 10 fun K hK => ?_
                go_simp
                refine hK.out _ _ ?_ (fun hHa => ?_)
                · exact bl_alloc HB3.out _
                clear hK K hH3
                try simp only [Act.put, List.setIfInBounds_toArray, List.set_cons_zero, List.set_cons_succ]
                have st : (V3.alloc (.cells #[.int .i64 0, .slice none 0 0, .int .i64 0, .int .i64 0] 24)).there V3.heap.size 0 4 := (OB.new V3 #[.int .i64 0, .slice none 0 0, .int .i64 0, .int .i64 0] 24).there 0 4 (by simp)
                have HF := hid (VB.store2 HQ.out HVV.out.1 HVV.out.2 HTD.out HB3.out)
                have on : (#[.int .i64 t.t.k, .slice t.t.a t.t.len t.t.cap, .int .i64 t.t.n, .int .i64 t.t.s] : Array Value).all (·.oneCell') = true := all_oneCell_toArray (cs := [.int .i64 t.t.k, .slice t.t.a t.t.len t.t.cap, .int .i64 t.t.n, .int .i64 t.t.s]) (by simp [Value.oneCell'])
                refine rqA 11 fun K hK => ?_
                refine step_storeV 24 V3.heap.size 0 #[.int .i64 t.t.k, .slice t.t.a t.t.len t.t.cap, .int .i64 t.t.n, .int .i64 t.t.s] st on ?_
                refine hK.out _ _ ?_ (fun hHs => ?_)
                · exact HF.out.bl
                clear hK K st on hHa
                try simp only [Act.put]
                refine tqB 12 18 ?_
                obtain ⟨gC, hgC⟩ : ∃ g, g = V3.heap.size := ⟨_, rfl⟩
                rw [← hgC] at HF ⊢
                clear hgC hHs
                refine wpAnyH_done (by kernel_rfl) ?_ _
                go_wp2_with fail
                go_meet
                exact ⟨gC, t, q, o, rfl, rfl, ⟨kn1, cn1, by rw [← HNn1.out]; exact HI.out⟩, HF⟩
              · go_simp
                refine hK.out _ _ ?_ (fun hH4 => ?_)
                · exact bl_alloc HB2.out _
                clear hK K hH2
                try simp only [Act.put, List.setIfInBounds_toArray, List.set_cons_zero, List.set_cons_succ]
                have HOn := hid (OB.new V2 #[.int .i64 0, .slice none 0 0, .int .i64 0, .int .i64 0] 24)
                have HB4 := hid (bl_alloc HB2.out (.cells #[.int .i64 0, .slice none 0 0, .int .i64 0, .int .i64 0] 24))
                have HLn14 := hid (HLn1.out.below (bl_a (w := V2) (.cells #[.int .i64 0, .slice none 0 0, .int .i64 0, .int .i64 0] 24)))
                have hGB : W12.heap.size ≤ V2.heap.size := HB2.out.size
                obtain ⟨gB, hgB⟩ : ∃ g, g = V2.heap.size := ⟨_, rfl⟩
                rw [← hgB] at HOn hGB ⊢
                have HGB := hid hGB
                clear hgB hGB HB2 HLn1
                generalize V2.alloc (.cells #[.int .i64 0, .slice none 0 0, .int .i64 0, .int .i64 0] 24) = V4 at *
                refine rqA 6 fun K hK => ?_
                obtain ⟨o, ho⟩ := valueIs n1 x
                have HI := hid ho
                clear ho
                go_simp
                refine (Value_any n1 x o _ HLn14.out (HT.out.below HB4.out).x HI.out).mono ?_
                rintro r V5 ⟨t, rfl, hV, htd, hb⟩
                have HB5 := hid (HB4.out.trans (hb.mono HB4.out.size))
                have HVV := hid hV
                have HTD := hid htd
                have HO5 := hid (HOn.out.below hb)
                have HLn15 := hid (HLn14.out.below hb)
                have HGL : Hid (gB < V4.heap.size) := (HOn).out.1
                obtain ⟨q, hq⟩ : ∃ q, q = o.isSome := ⟨_, rfl⟩
                rw [← hq]
                have HQ := hid hq
                clear hb hV htd hq HB4 hH4 HOn HLn14
                go_wp2_with fail
                refine hK.out _ _ ?_ (fun hH5 => ?_)
                · exact HB5.out
                clear hK K
                try simp only [Act.put, List.setIfInBounds_toArray, List.set_cons_zero, List.set_cons_succ]
                refine tqB 7 86 ?_
                refine tqB 8 94 ?_
                refine tqB 9 95 ?_
                have st : V5.there gB 0 4 := HO5.out.there 0 4 (by simp)
                have HF := hid (VB.store HQ.out HVV.out.1 HVV.out.2 HTD.out HO5.out HGB.out HB5.out HGL.out)
                have on : (#[.int .i64 t.t.k, .slice t.t.a t.t.len t.t.cap, .int .i64 t.t.n, .int .i64 t.t.s] : Array Value).all (·.oneCell') = true := all_oneCell_toArray (cs := [.int .i64 t.t.k, .slice t.t.a t.t.len t.t.cap, .int .i64 t.t.n, .int .i64 t.t.s]) (by simp [Value.oneCell'])
                refine rqA 11 fun K hK => ?_
                refine step_storeV 24 gB 0 #[.int .i64 t.t.k, .slice t.t.a t.t.len t.t.cap, .int .i64 t.t.n, .int .i64 t.t.s] st on ?_
                refine hK.out _ _ ?_ (fun hHs => ?_)
                · exact HF.out.bl
                clear hK K st on hH5
                try simp only [Act.put]
                refine tqB 12 18 ?_
                clear hHs
                refine wpAnyH_done (by kernel_rfl) ?_ _
                go_wp2_with fail
                go_meet
                exact ⟨gB, t, q, o, rfl, rfl, ⟨kn1, cn1, by rw [← HNn1.out]; exact HI.out⟩, HF⟩
            · go_simp
              refine hK.out _ _ ?_ (fun hH6 => ?_)
              · exact bl_alloc HB1.out _
              clear hK K hH1
              try simp only [Act.put, List.setIfInBounds_toArray, List.set_cons_zero, List.set_cons_succ]
              have HOn := hid (OB.new V1 #[.int .i64 0, .slice none 0 0, .int .i64 0, .int .i64 0] 24)
              have HB6 := hid (bl_alloc HB1.out (.cells #[.int .i64 0, .slice none 0 0, .int .i64 0, .int .i64 0] 24))
              have HR6 := hid (HR1.out.below (bl_a (w := V1) (.cells #[.int .i64 0, .slice none 0 0, .int .i64 0, .int .i64 0] 24)))
              have hGB : W12.heap.size ≤ V1.heap.size := HB1.out.size
              obtain ⟨gB, hgB⟩ : ∃ g, g = V1.heap.size := ⟨_, rfl⟩
              rw [← hgB] at HOn hGB ⊢
              have HGB := hid hGB
              clear hgB hGB HB1 HR1
              generalize V1.alloc (.cells #[.int .i64 0, .slice none 0 0, .int .i64 0, .int .i64 0] 24) = V6 at *
              refine rqA 3 fun K hK => ?_
              go_simp
              refine (func2_row 2 6 [b, e] (by simp) (by simp) g1 2 _ HR6.out (mem2 (HEB.out.l.below HB6.out) (HT.out.e.l.below HB6.out))).mono ?_
              rintro r V7 ⟨n1, kn1, cn1, HNn1, rfl, hl, hb⟩
              have HB7 := hid (HB6.out.trans (hb.mono HB6.out.size))
              have HLn1 := hid hl
              have HO7 := hid (HOn.out.below hb)
              clear hb hl HB6 hH6 HR6 HOn
              go_wp2_with fail
              refine hK.out _ _ ?_ (fun hH7 => ?_)
              · exact HB7.out
              clear hK K
              try simp only [Act.put, List.setIfInBounds_toArray, List.set_cons_zero, List.set_cons_succ]
              refine rqA 6 fun K hK => ?_
              obtain ⟨o, ho⟩ := valueIs n1 x
              have HI := hid ho
              clear ho
              go_simp
              refine (Value_any n1 x o _ HLn1.out (HT.out.below HB7.out).x HI.out).mono ?_
              rintro r V8 ⟨t, rfl, hV, htd, hb⟩
              have HB8 := hid (HB7.out.trans (hb.mono HB7.out.size))
              have HVV := hid hV
              have HTD := hid htd
              have HO8 := hid (HO7.out.below hb)
              have HLn18 := hid (HLn1.out.below hb)
              have HGL : Hid (gB < V7.heap.size) := (HO7).out.1
              obtain ⟨q, hq⟩ : ∃ q, q = o.isSome := ⟨_, rfl⟩
              rw [← hq]
              have HQ := hid hq
              clear hb hV htd hq HB7 hH7 HO7 HLn1
              go_wp2_with fail
              refine hK.out _ _ ?_ (fun hH8 => ?_)
              · exact HB8.out
              clear hK K
              try simp only [Act.put, List.setIfInBounds_toArray, List.set_cons_zero, List.set_cons_succ]
              refine tqB 7 86 ?_
              refine tqB 8 94 ?_
              refine tqB 9 95 ?_
              have st : V8.there gB 0 4 := HO8.out.there 0 4 (by simp)
              have HF := hid (VB.store HQ.out HVV.out.1 HVV.out.2 HTD.out HO8.out HGB.out HB8.out HGL.out)
              have on : (#[.int .i64 t.t.k, .slice t.t.a t.t.len t.t.cap, .int .i64 t.t.n, .int .i64 t.t.s] : Array Value).all (·.oneCell') = true := all_oneCell_toArray (cs := [.int .i64 t.t.k, .slice t.t.a t.t.len t.t.cap, .int .i64 t.t.n, .int .i64 t.t.s]) (by simp [Value.oneCell'])
              refine rqA 11 fun K hK => ?_
              refine step_storeV 24 gB 0 #[.int .i64 t.t.k, .slice t.t.a t.t.len t.t.cap, .int .i64 t.t.n, .int .i64 t.t.s] st on ?_
              refine hK.out _ _ ?_ (fun hHs => ?_)
              · exact HF.out.bl
              clear hK K st on hH8
              try simp only [Act.put]
              refine tqB 12 18 ?_
              clear hHs
              refine wpAnyH_done (by kernel_rfl) ?_ _
              go_wp2_with fail
              go_meet
              exact ⟨gB, t, q, o, rfl, rfl, ⟨kn1, cn1, by rw [← HNn1.out]; exact HI.out⟩, HF⟩
          · go_simp
            refine hK.out _ _ ?_ (fun hH9 => ?_)
            · exact bl_alloc HB0.out _
            clear hK K hH0
            try simp only [Act.put, List.setIfInBounds_toArray, List.set_cons_zero, List.set_cons_succ]
            have HOn := hid (OB.new V0 #[.int .i64 0, .slice none 0 0, .int .i64 0, .int .i64 0] 24)
            have HB9 := hid (bl_alloc HB0.out (.cells #[.int .i64 0, .slice none 0 0, .int .i64 0, .int .i64 0] 24))
            have hGB : W12.heap.size ≤ V0.heap.size := HB0.out.size
            obtain ⟨gB, hgB⟩ : ∃ g, g = V0.heap.size := ⟨_, rfl⟩
            rw [← hgB] at HOn hGB ⊢
            have HGB := hid hGB
            clear hgB hGB HB0 
            generalize V0.alloc (.cells #[.int .i64 0, .slice none 0 0, .int .i64 0, .int .i64 0] 24) = V9 at *
            refine rqA 2 fun K hK => ?_
            go_simp
            refine hK.out _ _ ?_ (fun hH10 => ?_)
            · exact bl_alloc HB9.out _
            clear hK K hH9
            try simp only [Act.put, List.setIfInBounds_toArray, List.set_cons_zero, List.set_cons_succ]
            have HR10 := hid (RE.new V9 [b, e] #[.int .i64 b.d.k, .int .i64 b.d.op, .slice b.d.v.a b.d.v.len b.d.v.cap, .int .i64 b.d.t.t.k, .slice b.d.t.t.a b.d.t.t.len b.d.t.t.cap, .int .i64 b.d.t.t.n, .int .i64 b.d.t.t.s, .slice b.d.ka b.d.n b.d.kc, .int .i64 e.d.k, .int .i64 e.d.op, .slice e.d.v.a e.d.v.len e.d.v.cap, .int .i64 e.d.t.t.k, .slice e.d.t.t.a e.d.t.t.len e.d.t.t.cap, .int .i64 e.d.t.t.n, .int .i64 e.d.t.t.s, .slice e.d.ka e.d.n e.d.kc] 29 rfl)
            have HB10 := hid (bl_alloc HB9.out (.cells #[.int .i64 b.d.k, .int .i64 b.d.op, .slice b.d.v.a b.d.v.len b.d.v.cap, .int .i64 b.d.t.t.k, .slice b.d.t.t.a b.d.t.t.len b.d.t.t.cap, .int .i64 b.d.t.t.n, .int .i64 b.d.t.t.s, .slice b.d.ka b.d.n b.d.kc, .int .i64 e.d.k, .int .i64 e.d.op, .slice e.d.v.a e.d.v.len e.d.v.cap, .int .i64 e.d.t.t.k, .slice e.d.t.t.a e.d.t.t.len e.d.t.t.cap, .int .i64 e.d.t.t.n, .int .i64 e.d.t.t.s, .slice e.d.ka e.d.n e.d.kc] 29))
            have HO10 := hid (HOn.out.below (bl_a (w := V9) (.cells #[.int .i64 b.d.k, .int .i64 b.d.op, .slice b.d.v.a b.d.v.len b.d.v.cap, .int .i64 b.d.t.t.k, .slice b.d.t.t.a b.d.t.t.len b.d.t.t.cap, .int .i64 b.d.t.t.n, .int .i64 b.d.t.t.s, .slice b.d.ka b.d.n b.d.kc, .int .i64 e.d.k, .int .i64 e.d.op, .slice e.d.v.a e.d.v.len e.d.v.cap, .int .i64 e.d.t.t.k, .slice e.d.t.t.a e.d.t.t.len e.d.t.t.cap, .int .i64 e.d.t.t.n, .int .i64 e.d.t.t.s, .slice e.d.ka e.d.n e.d.kc] 29)))
            obtain ⟨g10, hg10⟩ : ∃ g, g = V9.heap.size := ⟨_, rfl⟩
            rw [← hg10] at HR10 ⊢
            clear hg10 HB9 HOn
            generalize V9.alloc (.cells #[.int .i64 b.d.k, .int .i64 b.d.op, .slice b.d.v.a b.d.v.len b.d.v.cap, .int .i64 b.d.t.t.k, .slice b.d.t.t.a b.d.t.t.len b.d.t.t.cap, .int .i64 b.d.t.t.n, .int .i64 b.d.t.t.s, .slice b.d.ka b.d.n b.d.kc, .int .i64 e.d.k, .int .i64 e.d.op, .slice e.d.v.a e.d.v.len e.d.v.cap, .int .i64 e.d.t.t.k, .slice e.d.t.t.a e.d.t.t.len e.d.t.t.cap, .int .i64 e.d.t.t.n, .int .i64 e.d.t.t.s, .slice e.d.ka e.d.n e.d.kc] 29) = V10 at *
            refine rqA 3 fun K hK => ?_
            go_simp
            refine (func2_row 2 6 [b, e] (by simp) (by simp) g10 2 _ HR10.out (mem2 (HEB.out.l.below HB10.out) (HT.out.e.l.below HB10.out))).mono ?_
            rintro r V11 ⟨n1, kn1, cn1, HNn1, rfl, hl, hb⟩
            have HB11 := hid (HB10.out.trans (hb.mono HB10.out.size))
            have HLn1 := hid hl
            have HO11 := hid (HO10.out.below hb)
            clear hb hl HB10 hH10 HR10 HO10
            go_wp2_with fail
            refine hK.out _ _ ?_ (fun hH11 => ?_)
            · exact HB11.out
            clear hK K
            try simp only [Act.put, List.setIfInBounds_toArray, List.set_cons_zero, List.set_cons_succ]
            refine rqA 6 fun K hK => ?_
            obtain ⟨o, ho⟩ := valueIs n1 x
            have HI := hid ho
            clear ho
            go_simp
            refine (Value_any n1 x o _ HLn1.out (HT.out.below HB11.out).x HI.out).mono ?_
            rintro r V12 ⟨t, rfl, hV, htd, hb⟩
            have HB12 := hid (HB11.out.trans (hb.mono HB11.out.size))
            have HVV := hid hV
            have HTD := hid htd
            have HO12 := hid (HO11.out.below hb)
            have HLn112 := hid (HLn1.out.below hb)
            have HGL : Hid (gB < V11.heap.size) := (HO11).out.1
            obtain ⟨q, hq⟩ : ∃ q, q = o.isSome := ⟨_, rfl⟩
            rw [← hq]
            have HQ := hid hq
            clear hb hV htd hq HB11 hH11 HO11 HLn1
            go_wp2_with fail
            refine hK.out _ _ ?_ (fun hH12 => ?_)
            · exact HB12.out
            clear hK K
            try simp only [Act.put, List.setIfInBounds_toArray, List.set_cons_zero, List.set_cons_succ]
            refine tqB 7 86 ?_
            refine tqB 8 94 ?_
            refine tqB 9 95 ?_
            have st : V12.there gB 0 4 := HO12.out.there 0 4 (by simp)
            have HF := hid (VB.store HQ.out HVV.out.1 HVV.out.2 HTD.out HO12.out HGB.out HB12.out HGL.out)
            have on : (#[.int .i64 t.t.k, .slice t.t.a t.t.len t.t.cap, .int .i64 t.t.n, .int .i64 t.t.s] : Array Value).all (·.oneCell') = true := all_oneCell_toArray (cs := [.int .i64 t.t.k, .slice t.t.a t.t.len t.t.cap, .int .i64 t.t.n, .int .i64 t.t.s]) (by simp [Value.oneCell'])
            refine rqA 11 fun K hK => ?_
            refine step_storeV 24 gB 0 #[.int .i64 t.t.k, .slice t.t.a t.t.len t.t.cap, .int .i64 t.t.n, .int .i64 t.t.s] st on ?_
            refine hK.out _ _ ?_ (fun hHs => ?_)
            · exact HF.out.bl
            clear hK K st on hH12
            try simp only [Act.put]
            refine tqB 12 18 ?_
            clear hHs
            refine wpAnyH_done (by kernel_rfl) ?_ _
            go_wp2_with fail
            go_meet
            exact ⟨gB, t, q, o, rfl, rfl, ⟨kn1, cn1, by rw [← HNn1.out]; exact HI.out⟩, HF⟩
        case rest =>
          obtain ⟨g17, t17, q17, o17, rfl, rfl, HP17, HV17⟩ := hcut
          obtain ⟨W13, hW⟩ : ∃ W, W = wc := ⟨_, rfl⟩
          subst hW
          have HBc := hid HV17.out.bl
          have HTz := hid (HT.out.below HBc.out)
          have HEnaz := hid (HEna.out.below HBc.out)
          have HV13z := hid (HV13.out.below HBc.out)
          have HV15z := hid (HV15.out.below HBc.out)
          clear HBc HT HEna HV13 HV15 HEB
          have HT := HTz
          have HEna := HEnaz
          have HV13 := HV13z
          have HV15 := HV15z
          clear HTz HEnaz HV13z HV15z
          have la : W13.rangeAt b12 0 [.int .i64 na.d.k, .int .i64 na.d.op, .slice na.d.v.a na.d.v.len na.d.v.cap, .int .i64 na.d.t.t.k, .slice na.d.t.t.a na.d.t.t.len na.d.t.t.cap, .int .i64 na.d.t.t.n, .int .i64 na.d.t.t.s, .slice na.d.ka na.d.n na.d.kc] := HEna.out.bx.range 0 _ rfl
          have ls : W13.rangeAt (b5 + 1) 0 [.slice x.s.a x.s.n x.s.cap] := HT.out.s.range 0 _ rfl
          obtain ⟨o19, ho19⟩ := valueIs na x
          have HP19 := hid ho19
          clear ho19
          go_wp2_with (first | (with_reducible refine wpv_at ?_; refine wpList_load_mid rfl 29 _ rfl _ _ rfl [.int .i64 na.d.k, .int .i64 na.d.op, .slice na.d.v.a na.d.v.len na.d.v.cap, .int .i64 na.d.t.t.k, .slice na.d.t.t.a na.d.t.t.len na.d.t.t.cap, .int .i64 na.d.t.t.n, .int .i64 na.d.t.t.s, .slice na.d.ka na.d.n na.d.kc] _ la Try.underlying29 rfl (by kernel_rfl) ?_; try simp only [Act.put, List.setIfInBounds_toArray, List.set_cons_zero, List.set_cons_succ]) | (with_reducible refine wpv_at ?_; refine wpList_load_mid rfl 32 _ rfl _ _ rfl [.slice x.s.a x.s.n x.s.cap] _ ls Try.underlying32 rfl (by kernel_rfl) ?_; try simp only [Act.put, List.setIfInBounds_toArray, List.set_cons_zero, List.set_cons_succ]))
          refine (Value_any na x o19 _ HEna.out.l HT.out.x HP19.out).mono ?_
          rintro r w14 ⟨t19, rfl, hV, htd, hb⟩
          have HV19 : Hid (TLies w14 t19 ∧ t19.td = o19.getD zT) := ⟨⟨hV.1.base (Nat.zero_le _), hV.2⟩, htd⟩
          have HBc := hid (bl_trans hb (bl_a (w := w14) (.cells #[.int .i64 t19.t.k, .slice t19.t.a t19.t.len t19.t.cap, .int .i64 t19.t.n, .int .i64 t19.t.s] 24)))
          have HBX : Hid (Box (w14.alloc (.cells #[.int .i64 t19.t.k, .slice t19.t.a t19.t.len t19.t.cap, .int .i64 t19.t.n, .int .i64 t19.t.s] 24)) w14.heap.size [.int .i64 t19.t.k, .slice t19.t.a t19.t.len t19.t.cap, .int .i64 t19.t.n, .int .i64 t19.t.s]) := Box.new w14 #[.int .i64 t19.t.k, .slice t19.t.a t19.t.len t19.t.cap, .int .i64 t19.t.n, .int .i64 t19.t.s] 24 (0, 0)
          have HL19 : Hid (TLies (w14.alloc (.cells #[.int .i64 t19.t.k, .slice t19.t.a t19.t.len t19.t.cap, .int .i64 t19.t.n, .int .i64 t19.t.s] 24)) t19) := HV19.out.1.below (bl_a _)
          obtain ⟨q19, hq19⟩ : ∃ q, q = o19.isSome := ⟨_, rfl⟩
          rw [← hq19]
          have HQ19 := hid hq19
          clear hV htd hb hq19 la ls
          go_upto_region 15 with fail
          obtain ⟨g19, hg19⟩ : ∃ b, b = w14.heap.size := ⟨_, rfl⟩
          rw [← hg19] at HBX ⊢
          clear hg19
          generalize w14.alloc (.cells #[.int .i64 t19.t.k, .slice t19.t.a t19.t.len t19.t.cap, .int .i64 t19.t.n, .int .i64 t19.t.s] 24) = W14 at *
          have HTz := hid (HT.out.below HBc.out)
          have HV13z := hid (HV13.out.below HBc.out)
          have HV15z := hid (HV15.out.below HBc.out)
          have HV17z := hid (HV17.out.below HBc.out)
          clear HBc HT HV13 HV15 HV17 HEna
          have HT := HTz
          have HV13 := HV13z
          have HV15 := HV15z
          have HV17 := HV17z
          clear HTz HV13z HV15z HV17z
          have EXY : Hid (o13 = o15) := by
            obtain ⟨k2, c2, h1⟩ := HP13.out
            obtain ⟨k4, c4, k5, c5, h2⟩ := HP15.out
            rw [HNna.out] at h1
            rw [HNnn.out] at h2
            exact tr_x HLV.out HLB.out h1 h2
          have EZW : Hid (o17 = o19) := by
            obtain ⟨k2, c2, h1⟩ := HP17.out
            have h2 := HP19.out
            rw [HNna.out] at h2
            exact tr_z HLV.out HLB.out h1 h2
          have hqx : q13 = q15 := by rw [HV13.out.q, HV15.out.q, EXY.out]
          have hqz : q17 = q19 := by rw [HV17.out.q, HQ19.out, EZW.out]
          subst hqx
          subst hqz
          have hdx : t13.td = t15.td := by rw [HV13.out.td, HV15.out.td, EXY.out]
          have hdz : t17.td = t19.td := by rw [HV17.out.td, HV19.out.2, EZW.out]
          have HSX := hid (fun W (hb : Below W14.heap.size W14 W) => sameTerm_like ⟨t13.t.k, t13.t.a, t13.t.len, t13.t.cap, t13.b, t13.t.n, t13.t.s⟩ ⟨t15.t.k, t15.t.a, t15.t.len, t15.t.cap, t15.b, t15.t.n, t15.t.s⟩ W (congrArg TD.k hdx) (congrArg TD.bs hdx) (congrArg TD.n hdx) (congrArg TD.s hdx) (HV13.out.l.below hb).1.1 (HV15.out.l.below hb).1.1)
          have HSZ := hid (fun W (hb : Below W14.heap.size W14 W) => sameTerm_like ⟨t17.t.k, t17.t.a, t17.t.len, t17.t.cap, t17.b, t17.t.n, t17.t.s⟩ ⟨t19.t.k, t19.t.a, t19.t.len, t19.t.cap, t19.b, t19.t.n, t19.t.s⟩ W (congrArg TD.k hdz) (congrArg TD.bs hdz) (congrArg TD.n hdz) (congrArg TD.s hdz) (HV17.out.l.below hb).1.1 (HL19.out.below hb).1.1)
          clear hdx hdz
          have x0 := HV13.out.bx.2 0 _ rfl
          have x1 := HV13.out.bx.2 1 _ rfl
          have x2 := HV13.out.bx.2 2 _ rfl
          have x3 := HV13.out.bx.2 3 _ rfl
          have y0 := HV15.out.bx.2 0 _ rfl
          have y1 := HV15.out.bx.2 1 _ rfl
          have y2 := HV15.out.bx.2 2 _ rfl
          have y3 := HV15.out.bx.2 3 _ rfl
          go_wp2_with fail
          refine (HSX.out _ (Below.refl _ _)).mono ?_
          rintro r w15 ⟨rfl, hb15⟩
          have HSZ2 := hid (HSZ.out _ hb15)
          clear x0 x1 x2 x3 y0 y1 y2 y3 HSX HSZ
          have x0 := (HV17.out.bx.below hb15).2 0 _ rfl
          have x1 := (HV17.out.bx.below hb15).2 1 _ rfl
          have x2 := (HV17.out.bx.below hb15).2 2 _ rfl
          have x3 := (HV17.out.bx.below hb15).2 3 _ rfl
          have y0 := (HBX.out.below hb15).2 0 _ rfl
          have y1 := (HBX.out.below hb15).2 1 _ rfl
          have y2 := (HBX.out.below hb15).2 2 _ rfl
          have y3 := (HBX.out.below hb15).2 3 _ rfl
          go_wp2_with fail
          refine HSZ2.out.mono ?_
          rintro r W16 ⟨rfl, hb16⟩
          have HTz := hid (HT.out.below (bl_trans hb15 hb16))
          clear x0 x1 x2 x3 y0 y1 y2 y3 HSZ2 hb15 hb16 HV13 HV15 HV17 HV19 HBX HL19 EXY EZW HP13 HP15 HP17 HP19 HT HNna HNnn HQ19
          have HT := HTz
          clear HTz
          go_upto_region 17 with fail
          go_wp2_with fail
          go_cut [21, 22] from 23 (fun sa sb wx => ∃ (g : Nat) (t : TB) (q : Bool) (o : Option TD), sa = .pointer (some ⟨g, 0, none⟩) ∧ sb = .bool q ∧ Hid (∃ ka kc, ValueIs (nd 6 0 [e, litE 7] ka kc) x o) ∧ Hid (VB W16 wx g t q o))
          case first =>
            have HB0 : Hid (Below W16.heap.size W16 W16.drew) := Below.drew (Below.refl _ _)
            refine wqd (fun w' => Below W16.heap.size W16 w') ?_ fun hH0 => ?_
            · exact HB0.out
            generalize W16.drew = V0 at *
            refine ldq 0 124 Try.underlying29 (fun w' h => (HT.out.below h).e.bx.range 0 [.int .i64 e.d.k, .int .i64 e.d.op, .slice e.d.v.a e.d.v.len e.d.v.cap, .int .i64 e.d.t.t.k, .slice e.d.t.t.a e.d.t.t.len e.d.t.t.cap, .int .i64 e.d.t.t.n, .int .i64 e.d.t.t.s, .slice e.d.ka e.d.n e.d.kc] rfl) ?_
            refine tqB 1 125 ?_
            refine tqB 2 126 ?_
            refine tqB 5 129 ?_
            refine ldq 6 130 Try.underlying32 (fun w' h => (HT.out.below h).s.range 0 [.slice x.s.a x.s.n x.s.cap] rfl) ?_
            refine wpAnyH_ready (rs := [3, 11]) (by kernel_rfl) (by simp) ?_
            refine AllReadyH.cons rfl (fun K hK => ?_) (AllReadyH.cons rfl (fun K hK => ?_) AllReadyH.nil)
            · go_simp
              refine hK.out _ _ ?_ (fun hH1 => ?_)
              · exact bl_alloc HB0.out _
              clear hK K hH0
              try simp only [Act.put, List.setIfInBounds_toArray, List.set_cons_zero, List.set_cons_succ]
              have HR1 := hid (RE.new V0 [e, (litE 7)] #[.int .i64 e.d.k, .int .i64 e.d.op, .slice e.d.v.a e.d.v.len e.d.v.cap, .int .i64 e.d.t.t.k, .slice e.d.t.t.a e.d.t.t.len e.d.t.t.cap, .int .i64 e.d.t.t.n, .int .i64 e.d.t.t.s, .slice e.d.ka e.d.n e.d.kc, .int .i64 1, .int .i64 0, .slice none 0 0, .int .i64 3, .slice none 0 0, .int .i64 7, .int .i64 0, .slice none 0 0] 29 rfl)
              have HB1 := hid (bl_alloc HB0.out (.cells #[.int .i64 e.d.k, .int .i64 e.d.op, .slice e.d.v.a e.d.v.len e.d.v.cap, .int .i64 e.d.t.t.k, .slice e.d.t.t.a e.d.t.t.len e.d.t.t.cap, .int .i64 e.d.t.t.n, .int .i64 e.d.t.t.s, .slice e.d.ka e.d.n e.d.kc, .int .i64 1, .int .i64 0, .slice none 0 0, .int .i64 3, .slice none 0 0, .int .i64 7, .int .i64 0, .slice none 0 0] 29))
              obtain ⟨g1, hg1⟩ : ∃ g, g = V0.heap.size := ⟨_, rfl⟩
              rw [← hg1] at HR1 ⊢
              clear hg1 HB0 
              generalize V0.alloc (.cells #[.int .i64 e.d.k, .int .i64 e.d.op, .slice e.d.v.a e.d.v.len e.d.v.cap, .int .i64 e.d.t.t.k, .slice e.d.t.t.a e.d.t.t.len e.d.t.t.cap, .int .i64 e.d.t.t.n, .int .i64 e.d.t.t.s, .slice e.d.ka e.d.n e.d.kc, .int .i64 1, .int .i64 0, .slice none 0 0, .int .i64 3, .slice none 0 0, .int .i64 7, .int .i64 0, .slice none 0 0] 29) = V1 at *
              refine wpAnyH_ready (rs := [4, 11]) (by kernel_rfl) (by simp) ?_
              refine AllReadyH.cons rfl (fun K hK => ?_) (AllReadyH.cons rfl (fun K hK => ?_) AllReadyH.nil)
              · go_simp
                refine (func2_row 6 0 [e, (litE 7)] (by simp) (by simp) g1 2 _ HR1.out (mem2 (HT.out.e.l.below HB1.out) (litE_lies 7 0 _ (by omega) (by omega)))).mono ?_
                rintro r V2 ⟨n1, kn1, cn1, HNn1, rfl, hl, hb⟩
                have HB2 := hid (HB1.out.trans (hb.mono HB1.out.size))
                have HLn1 := hid hl
                clear hb hl HB1 hH1 HR1 
                go_wp2_with fail
                refine hK.out _ _ ?_ (fun hH2 => ?_)
                · exact HB2.out
                clear hK K
                try simp only [Act.put, List.setIfInBounds_toArray, List.set_cons_zero, List.set_cons_succ]
                refine wpAnyH_ready (rs := [7, 11]) (by kernel_rfl) (by simp) ?_
                refine AllReadyH.cons rfl (fun K hK => ?_) (AllReadyH.cons rfl (fun K hK => ?_) AllReadyH.nil)
                · obtain ⟨o, ho⟩ := valueIs n1 x
                  have HI := hid ho
                  clear ho
                  go_simp
                  refine (Value_any n1 x o _ HLn1.out (HT.out.below HB2.out).x HI.out).mono ?_
                  rintro r V3 ⟨t, rfl, hV, htd, hb⟩
                  have HB3 := hid (HB2.out.trans (hb.mono HB2.out.size))
                  have HVV := hid hV
                  have HTD := hid htd
                  have HLn13 := hid (HLn1.out.below hb)
                  obtain ⟨q, hq⟩ : ∃ q, q = o.isSome := ⟨_, rfl⟩
                  rw [← hq]
                  have HQ := hid hq
                  clear hb hV htd hq HB2 hH2 HLn1
                  go_wp2_with fail
                  refine hK.out _ _ ?_ (fun hH3 => ?_)
                  · exact HB3.out
                  clear hK K
                  try simp only [Act.put, List.setIfInBounds_toArray, List.set_cons_zero, List.set_cons_succ]
                  refine tqB 8 123 ?_
                  refine tqB 9 132 ?_
                  refine tqB 10 133 ?_
                  refine rqA 11 fun K hK => ?_
                  go_simp
                  refine hK.out _ _ ?_ (fun hHa => ?_)
                  · exact bl_alloc HB3.out _
                  clear hK K hH3
                  try simp only [Act.put, List.setIfInBounds_toArray, List.set_cons_zero, List.set_cons_succ]
                  have st : (V3.alloc (.cells #[.int .i64 0, .slice none 0 0, .int .i64 0, .int .i64 0] 24)).there V3.heap.size 0 4 := (OB.new V3 #[.int .i64 0, .slice none 0 0, .int .i64 0, .int .i64 0] 24).there 0 4 (by simp)
                  have HF := hid (VB.store2 HQ.out HVV.out.1 HVV.out.2 HTD.out HB3.out)
                  have on : (#[.int .i64 t.t.k, .slice t.t.a t.t.len t.t.cap, .int .i64 t.t.n, .int .i64 t.t.s] : Array Value).all (·.oneCell') = true := all_oneCell_toArray (cs := [.int .i64 t.t.k, .slice t.t.a t.t.len t.t.cap, .int .i64 t.t.n, .int .i64 t.t.s]) (by simp [Value.oneCell'])
                  refine rqA 12 fun K hK => ?_
                  refine step_storeV 24 V3.heap.size 0 #[.int .i64 t.t.k, .slice t.t.a t.t.len t.t.cap, .int .i64 t.t.n, .int .i64 t.t.s] st on ?_
                  refine hK.out _ _ ?_ (fun hHs => ?_)
                  · exact HF.out.bl
                  clear hK K st on hHa
                  try simp only [Act.put]
                  refine tqB 13 22 ?_
                  obtain ⟨gC, hgC⟩ : ∃ g, g = V3.heap.size := ⟨_, rfl⟩
                  rw [← hgC] at HF ⊢
                  clear hgC hHs
                  refine wpAnyH_done (by kernel_rfl) ?_ _
                  go_wp2_with fail
                  go_meet
                  exact ⟨gC, t, q, o, rfl, rfl, ⟨kn1, cn1, by rw [← HNn1.out]; exact HI.out⟩, HF⟩
                · go_simp
                  refine hK.out _ _ ?_ (fun hH4 => ?_)
                  · exact bl_alloc HB2.out _
                  clear hK K hH2
                  try simp only [Act.put, List.setIfInBounds_toArray, List.set_cons_zero, List.set_cons_succ]
                  have HOn := hid (OB.new V2 #[.int .i64 0, .slice none 0 0, .int .i64 0, .int .i64 0] 24)
                  have HB4 := hid (bl_alloc HB2.out (.cells #[.int .i64 0, .slice none 0 0, .int .i64 0, .int .i64 0] 24))
                  have HLn14 := hid (HLn1.out.below (bl_a (w := V2) (.cells #[.int .i64 0, .slice none 0 0, .int .i64 0, .int .i64 0] 24)))
                  have hGB : W16.heap.size ≤ V2.heap.size := HB2.out.size
                  obtain ⟨gB, hgB⟩ : ∃ g, g = V2.heap.size := ⟨_, rfl⟩
                  rw [← hgB] at HOn hGB ⊢
                  have HGB := hid hGB
                  clear hgB hGB HB2 HLn1
                  generalize V2.alloc (.cells #[.int .i64 0, .slice none 0 0, .int .i64 0, .int .i64 0] 24) = V4 at *
                  refine rqA 7 fun K hK => ?_
                  obtain ⟨o, ho⟩ := valueIs n1 x
                  have HI := hid ho
                  clear ho
                  go_simp
                  refine (Value_any n1 x o _ HLn14.out (HT.out.below HB4.out).x HI.out).mono ?_
                  rintro r V5 ⟨t, rfl, hV, htd, hb⟩
                  have HB5 := hid (HB4.out.trans (hb.mono HB4.out.size))
                  have HVV := hid hV
                  have HTD := hid htd
                  have HO5 := hid (HOn.out.below hb)
                  have HLn15 := hid (HLn14.out.below hb)
                  have HGL : Hid (gB < V4.heap.size) := (HOn).out.1
                  obtain ⟨q, hq⟩ : ∃ q, q = o.isSome := ⟨_, rfl⟩
                  rw [← hq]
                  have HQ := hid hq
                  clear hb hV htd hq HB4 hH4 HOn HLn14
                  go_wp2_with fail
                  refine hK.out _ _ ?_ (fun hH5 => ?_)
                  · exact HB5.out
                  clear hK K
                  try simp only [Act.put, List.setIfInBounds_toArray, List.set_cons_zero, List.set_cons_succ]
                  refine tqB 8 123 ?_
                  refine tqB 9 132 ?_
                  refine tqB 10 133 ?_
                  have st : V5.there gB 0 4 := HO5.out.there 0 4 (by simp)
                  have HF := hid (VB.store HQ.out HVV.out.1 HVV.out.2 HTD.out HO5.out HGB.out HB5.out HGL.out)
                  have on : (#[.int .i64 t.t.k, .slice t.t.a t.t.len t.t.cap, .int .i64 t.t.n, .int .i64 t.t.s] : Array Value).all (·.oneCell') = true := all_oneCell_toArray (cs := [.int .i64 t.t.k, .slice t.t.a t.t.len t.t.cap, .int .i64 t.t.n, .int .i64 t.t.s]) (by simp [Value.oneCell'])
                  refine rqA 12 fun K hK => ?_
                  refine step_storeV 24 gB 0 #[.int .i64 t.t.k, .slice t.t.a t.t.len t.t.cap, .int .i64 t.t.n, .int .i64 t.t.s] st on ?_
                  refine hK.out _ _ ?_ (fun hHs => ?_)
                  · exact HF.out.bl
                  clear hK K st on hH5
                  try simp only [Act.put]
                  refine tqB 13 22 ?_
                  clear hHs
                  refine wpAnyH_done (by kernel_rfl) ?_ _
                  go_wp2_with fail
                  go_meet
                  exact ⟨gB, t, q, o, rfl, rfl, ⟨kn1, cn1, by rw [← HNn1.out]; exact HI.out⟩, HF⟩
              · go_simp
                refine hK.out _ _ ?_ (fun hH6 => ?_)
                · exact bl_alloc HB1.out _
                clear hK K hH1
                try simp only [Act.put, List.setIfInBounds_toArray, List.set_cons_zero, List.set_cons_succ]
                have HOn := hid (OB.new V1 #[.int .i64 0, .slice none 0 0, .int .i64 0, .int .i64 0] 24)
                have HB6 := hid (bl_alloc HB1.out (.cells #[.int .i64 0, .slice none 0 0, .int .i64 0, .int .i64 0] 24))
                have HR6 := hid (HR1.out.below (bl_a (w := V1) (.cells #[.int .i64 0, .slice none 0 0, .int .i64 0, .int .i64 0] 24)))
                have hGB : W16.heap.size ≤ V1.heap.size := HB1.out.size
                obtain ⟨gB, hgB⟩ : ∃ g, g = V1.heap.size := ⟨_, rfl⟩
                rw [← hgB] at HOn hGB ⊢
                have HGB := hid hGB
                clear hgB hGB HB1 HR1
                generalize V1.alloc (.cells #[.int .i64 0, .slice none 0 0, .int .i64 0, .int .i64 0] 24) = V6 at *
                refine rqA 4 fun K hK => ?_
                go_simp
                refine (func2_row 6 0 [e, (litE 7)] (by simp) (by simp) g1 2 _ HR6.out (mem2 (HT.out.e.l.below HB6.out) (litE_lies 7 0 _ (by omega) (by omega)))).mono ?_
                rintro r V7 ⟨n1, kn1, cn1, HNn1, rfl, hl, hb⟩
                have HB7 := hid (HB6.out.trans (hb.mono HB6.out.size))
                have HLn1 := hid hl
                have HO7 := hid (HOn.out.below hb)
                clear hb hl HB6 hH6 HR6 HOn
                go_wp2_with fail
                refine hK.out _ _ ?_ (fun hH7 => ?_)
                · exact HB7.out
                clear hK K
                try simp only [Act.put, List.setIfInBounds_toArray, List.set_cons_zero, List.set_cons_succ]
                refine rqA 7 fun K hK => ?_
                obtain ⟨o, ho⟩ := valueIs n1 x
                have HI := hid ho
                clear ho
                go_simp
                refine (Value_any n1 x o _ HLn1.out (HT.out.below HB7.out).x HI.out).mono ?_
                rintro r V8 ⟨t, rfl, hV, htd, hb⟩
                have HB8 := hid (HB7.out.trans (hb.mono HB7.out.size))
                have HVV := hid hV
                have HTD := hid htd
                have HO8 := hid (HO7.out.below hb)
                have HLn18 := hid (HLn1.out.below hb)
                have HGL : Hid (gB < V7.heap.size) := (HO7).out.1
                obtain ⟨q, hq⟩ : ∃ q, q = o.isSome := ⟨_, rfl⟩
                rw [← hq]
                have HQ := hid hq
                clear hb hV htd hq HB7 hH7 HO7 HLn1
                go_wp2_with fail
                refine hK.out _ _ ?_ (fun hH8 => ?_)
                · exact HB8.out
                clear hK K
                try simp only [Act.put, List.setIfInBounds_toArray, List.set_cons_zero, List.set_cons_succ]
                refine tqB 8 123 ?_
                refine tqB 9 132 ?_
                refine tqB 10 133 ?_
                have st : V8.there gB 0 4 := HO8.out.there 0 4 (by simp)
                have HF := hid (VB.store HQ.out HVV.out.1 HVV.out.2 HTD.out HO8.out HGB.out HB8.out HGL.out)
                have on : (#[.int .i64 t.t.k, .slice t.t.a t.t.len t.t.cap, .int .i64 t.t.n, .int .i64 t.t.s] : Array Value).all (·.oneCell') = true := all_oneCell_toArray (cs := [.int .i64 t.t.k, .slice t.t.a t.t.len t.t.cap, .int .i64 t.t.n, .int .i64 t.t.s]) (by simp [Value.oneCell'])
                refine rqA 12 fun K hK => ?_
                refine step_storeV 24 gB 0 #[.int .i64 t.t.k, .slice t.t.a t.t.len t.t.cap, .int .i64 t.t.n, .int .i64 t.t.s] st on ?_
                refine hK.out _ _ ?_ (fun hHs => ?_)
                · exact HF.out.bl
                clear hK K st on hH8
                try simp only [Act.put]
                refine tqB 13 22 ?_
                clear hHs
                refine wpAnyH_done (by kernel_rfl) ?_ _
                go_wp2_with fail
                go_meet
                exact ⟨gB, t, q, o, rfl, rfl, ⟨kn1, cn1, by rw [← HNn1.out]; exact HI.out⟩, HF⟩
            · go_simp
              refine hK.out _ _ ?_ (fun hH9 => ?_)
              · exact bl_alloc HB0.out _
              clear hK K hH0
              try simp only [Act.put, List.setIfInBounds_toArray, List.set_cons_zero, List.set_cons_succ]
              have HOn := hid (OB.new V0 #[.int .i64 0, .slice none 0 0, .int .i64 0, .int .i64 0] 24)
              have HB9 := hid (bl_alloc HB0.out (.cells #[.int .i64 0, .slice none 0 0, .int .i64 0, .int .i64 0] 24))
              have hGB : W16.heap.size ≤ V0.heap.size := HB0.out.size
              obtain ⟨gB, hgB⟩ : ∃ g, g = V0.heap.size := ⟨_, rfl⟩
              rw [← hgB] at HOn hGB ⊢
              have HGB := hid hGB
              clear hgB hGB HB0 
              generalize V0.alloc (.cells #[.int .i64 0, .slice none 0 0, .int .i64 0, .int .i64 0] 24) = V9 at *
              refine rqA 3 fun K hK => ?_
              go_simp
              refine hK.out _ _ ?_ (fun hH10 => ?_)
              · exact bl_alloc HB9.out _
              clear hK K hH9
              try simp only [Act.put, List.setIfInBounds_toArray, List.set_cons_zero, List.set_cons_succ]
              have HR10 := hid (RE.new V9 [e, (litE 7)] #[.int .i64 e.d.k, .int .i64 e.d.op, .slice e.d.v.a e.d.v.len e.d.v.cap, .int .i64 e.d.t.t.k, .slice e.d.t.t.a e.d.t.t.len e.d.t.t.cap, .int .i64 e.d.t.t.n, .int .i64 e.d.t.t.s, .slice e.d.ka e.d.n e.d.kc, .int .i64 1, .int .i64 0, .slice none 0 0, .int .i64 3, .slice none 0 0, .int .i64 7, .int .i64 0, .slice none 0 0] 29 rfl)
              have HB10 := hid (bl_alloc HB9.out (.cells #[.int .i64 e.d.k, .int .i64 e.d.op, .slice e.d.v.a e.d.v.len e.d.v.cap, .int .i64 e.d.t.t.k, .slice e.d.t.t.a e.d.t.t.len e.d.t.t.cap, .int .i64 e.d.t.t.n, .int .i64 e.d.t.t.s, .slice e.d.ka e.d.n e.d.kc, .int .i64 1, .int .i64 0, .slice none 0 0, .int .i64 3, .slice none 0 0, .int .i64 7, .int .i64 0, .slice none 0 0] 29))
              have HO10 := hid (HOn.out.below (bl_a (w := V9) (.cells #[.int .i64 e.d.k, .int .i64 e.d.op, .slice e.d.v.a e.d.v.len e.d.v.cap, .int .i64 e.d.t.t.k, .slice e.d.t.t.a e.d.t.t.len e.d.t.t.cap, .int .i64 e.d.t.t.n, .int .i64 e.d.t.t.s, .slice e.d.ka e.d.n e.d.kc, .int .i64 1, .int .i64 0, .slice none 0 0, .int .i64 3, .slice none 0 0, .int .i64 7, .int .i64 0, .slice none 0 0] 29)))
              obtain ⟨g10, hg10⟩ : ∃ g, g = V9.heap.size := ⟨_, rfl⟩
              rw [← hg10] at HR10 ⊢
              clear hg10 HB9 HOn
              generalize V9.alloc (.cells #[.int .i64 e.d.k, .int .i64 e.d.op, .slice e.d.v.a e.d.v.len e.d.v.cap, .int .i64 e.d.t.t.k, .slice e.d.t.t.a e.d.t.t.len e.d.t.t.cap, .int .i64 e.d.t.t.n, .int .i64 e.d.t.t.s, .slice e.d.ka e.d.n e.d.kc, .int .i64 1, .int .i64 0, .slice none 0 0, .int .i64 3, .slice none 0 0, .int .i64 7, .int .i64 0, .slice none 0 0] 29) = V10 at *
              refine rqA 4 fun K hK => ?_
              go_simp
              refine (func2_row 6 0 [e, (litE 7)] (by simp) (by simp) g10 2 _ HR10.out (mem2 (HT.out.e.l.below HB10.out) (litE_lies 7 0 _ (by omega) (by omega)))).mono ?_
              rintro r V11 ⟨n1, kn1, cn1, HNn1, rfl, hl, hb⟩
              have HB11 := hid (HB10.out.trans (hb.mono HB10.out.size))
              have HLn1 := hid hl
              have HO11 := hid (HO10.out.below hb)
              clear hb hl HB10 hH10 HR10 HO10
              go_wp2_with fail
              refine hK.out _ _ ?_ (fun hH11 => ?_)
              · exact HB11.out
              clear hK K
              try simp only [Act.put, List.setIfInBounds_toArray, List.set_cons_zero, List.set_cons_succ]
              refine rqA 7 fun K hK => ?_
              obtain ⟨o, ho⟩ := valueIs n1 x
              have HI := hid ho
              clear ho
              go_simp
              refine (Value_any n1 x o _ HLn1.out (HT.out.below HB11.out).x HI.out).mono ?_
              rintro r V12 ⟨t, rfl, hV, htd, hb⟩
              have HB12 := hid (HB11.out.trans (hb.mono HB11.out.size))
              have HVV := hid hV
              have HTD := hid htd
              have HO12 := hid (HO11.out.below hb)
              have HLn112 := hid (HLn1.out.below hb)
              have HGL : Hid (gB < V11.heap.size) := (HO11).out.1
              obtain ⟨q, hq⟩ : ∃ q, q = o.isSome := ⟨_, rfl⟩
              rw [← hq]
              have HQ := hid hq
              clear hb hV htd hq HB11 hH11 HO11 HLn1
              go_wp2_with fail
              refine hK.out _ _ ?_ (fun hH12 => ?_)
              · exact HB12.out
              clear hK K
              try simp only [Act.put, List.setIfInBounds_toArray, List.set_cons_zero, List.set_cons_succ]
              refine tqB 8 123 ?_
              refine tqB 9 132 ?_
              refine tqB 10 133 ?_
              have st : V12.there gB 0 4 := HO12.out.there 0 4 (by simp)
              have HF := hid (VB.store HQ.out HVV.out.1 HVV.out.2 HTD.out HO12.out HGB.out HB12.out HGL.out)
              have on : (#[.int .i64 t.t.k, .slice t.t.a t.t.len t.t.cap, .int .i64 t.t.n, .int .i64 t.t.s] : Array Value).all (·.oneCell') = true := all_oneCell_toArray (cs := [.int .i64 t.t.k, .slice t.t.a t.t.len t.t.cap, .int .i64 t.t.n, .int .i64 t.t.s]) (by simp [Value.oneCell'])
              refine rqA 12 fun K hK => ?_
              refine step_storeV 24 gB 0 #[.int .i64 t.t.k, .slice t.t.a t.t.len t.t.cap, .int .i64 t.t.n, .int .i64 t.t.s] st on ?_
              refine hK.out _ _ ?_ (fun hHs => ?_)
              · exact HF.out.bl
              clear hK K st on hH12
              try simp only [Act.put]
              refine tqB 13 22 ?_
              clear hHs
              refine wpAnyH_done (by kernel_rfl) ?_ _
              go_wp2_with fail
              go_meet
              exact ⟨gB, t, q, o, rfl, rfl, ⟨kn1, cn1, by rw [← HNn1.out]; exact HI.out⟩, HF⟩
          case rest =>
            obtain ⟨g21, t21, q21, o21, rfl, rfl, HP21, HV21⟩ := hcut
            obtain ⟨W17, hW⟩ : ∃ W, W = wc := ⟨_, rfl⟩
            subst hW
            have HBc := hid HV21.out.bl
            have HTz := hid (HT.out.below HBc.out)
            clear HBc HT 
            have HT := HTz
            clear HTz
            have HCC : Hid (q21 = true → qe = true ∨ t21.t.n = 7) := by
              intro h
              obtain ⟨k7, c7, h2⟩ := HP21.out
              rcases tr_c HLV.out (litE_lv 7) rfl HIE.out h2 (by rw [← HV21.out.q]; exact h) with h | h
              · left
                rw [HQE.out]
                exact h
              · right
                have h3 := HV21.out.td
                rw [h] at h3
                exact congrArg TD.n h3
            have n7 : W17.cell? ⟨g21, 2, none⟩ = some (.int .i64 t21.t.n) := HV21.out.bx.2 2 _ rfl
            have HBL := hid HT.out.bl
            clear HP21 HV21 HIE HQE HLV HLB HT
            cases q21 with
            | false =>
              clear n7 HCC
              go_wp2
              go_ret
              exact ⟨rfl, HBL.out⟩
            | true =>
              cases qe with
              | true =>
                clear n7 HCC
                go_wp2
                go_ret
                exact ⟨rfl, HBL.out⟩
              | false =>
                have h7 : t21.t.n = 7 := by
                  rcases HCC.out rfl with h | h
                  · cases h
                  · exact h
                rw [h7] at n7
                clear HCC h7
                go_wp2
                go_ret
                exact ⟨rfl, HBL.out⟩
end Go.Proofs.Ytidhcbjhggdncaa
