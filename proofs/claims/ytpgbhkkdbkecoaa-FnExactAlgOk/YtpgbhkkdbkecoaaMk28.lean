/- Texts put together: TreV0 TreV1 TreV2 TreV3 -/
import Derived.Test.YtpgbhkkdbkecoaaMk27
/- TreV0 -/
namespace Go.Proofs.Ytpgbhkkdbkecoaa
open Go.RowKit Go.Deep
set_option maxRecDepth 100000

set_option maxHeartbeats 8000000 in
theorem hasOwnA_0 (d : AN) (kid : Nat → AT) (w : World) (hkv : d.k = 0) (hl : (AT.mk d kid).lies 0 w) : Calls Try.prog 77 #[.agg #[.int .i64 d.k, .slice d.pa d.pn d.pc, .int .i64 d.e.d.k, .int .i64 d.e.d.op, .slice d.e.d.v.a d.e.d.v.len d.e.d.v.cap, .int .i64 d.e.d.t.t.k, .slice d.e.d.t.t.a d.e.d.t.t.len d.e.d.t.t.cap, .int .i64 d.e.d.t.t.n, .int .i64 d.e.d.t.t.s, .slice d.e.d.ka d.e.d.n d.e.d.kc, .slice d.v.a d.v.len d.v.cap, .slice d.ta d.tb.length d.tc, .slice d.ka d.n d.kc]] w (Tells (HasA d) w) := by
  obtain ⟨hp, hpl, hpn, he, hv, ht, htn, hn, _⟩ := hl
  have KC := fun W => algKidCount_any 0 W
  have e1 : pKids 0 = 0 := by decide
  rw [e1] at KC
  clear e1
  have HKE : Hid (kidsA d.k = 0) := (show _ = _ by rw [hkv]; decide)
  have HKV : Hid (d.k = 0) := hkv
  have HIB : Hid (∀ W, Below w.heap.size w W → Calls Try.prog 92 #[.agg #[.int .i64 0, .slice none 0 0, .int .i64 d.e.d.k, .int .i64 d.e.d.op, .slice d.e.d.v.a d.e.d.v.len d.e.d.v.cap, .int .i64 d.e.d.t.t.k, .slice d.e.d.t.t.a d.e.d.t.t.len d.e.d.t.t.cap, .int .i64 d.e.d.t.t.n, .int .i64 d.e.d.t.t.s, .slice d.e.d.ka d.e.d.n d.e.d.kc, .slice d.v.a d.v.len d.v.cap, .slice d.ta d.tb.length d.tc, .slice d.ka d.n d.kc]] W (Tells (BareA ⟨0, none, 0, 0, d.pat, d.e, d.v, d.ta, d.tc, d.tb, d.ka, d.kc, d.n⟩) W)) := fun W hb => isBareA_any ⟨0, none, 0, 0, d.pat, d.e, d.v, d.ta, d.tc, d.tb, d.ka, d.kc, d.n⟩ W (ET.lies.upper (Upper.of_below hb) he) (hv.upper (Upper.of_below hb))
  have HPO : Hid (∀ W, Below w.heap.size w W → Calls Try.prog 91 #[.slice d.pa d.pn d.pc] W (Tells (d.pn ≤ 120 ∧ ∀ i, i < d.pn → ptOk (d.pat i)) W)) := fun W hb => patsOk_any d.pa d.pn d.pc d.pat W hpn (hp.upper (Upper.of_below hb)) (fun i hi => (hpl i hi).upper (Upper.of_below hb))
  rw [hkv]
  clear hp hpl hpn he hv ht htn hkv
  go_enter Try.func77, Try.ntmps77
  go_upto_region 1 with fail
  obtain ⟨q0, hq0⟩ : ∃ q0, q0 = ((d.n : Int) != 0) := ⟨_, rfl⟩
  have HQ0 : Hid (q0 = ((d.n : Int) != 0)) := hq0
  refine wp_region_held_drew (S := fun w' => w' = ((w.alloc (.cells #[.int .i64 0, .slice d.pa d.pn d.pc, .int .i64 d.e.d.k, .int .i64 d.e.d.op, .slice d.e.d.v.a d.e.d.v.len d.e.d.v.cap, .int .i64 d.e.d.t.t.k, .slice d.e.d.t.t.a d.e.d.t.t.len d.e.d.t.t.cap, .int .i64 d.e.d.t.t.n, .int .i64 d.e.d.t.t.s, .slice d.e.d.ka d.e.d.n d.e.d.kc, .slice d.v.a d.v.len d.v.cap, .slice d.ta d.tb.length d.tc, .slice d.ka d.n d.kc] 43)).drew)) (by kernel_rfl) ?_ (fun hHeld => ?_)
  · rfl
  refine takeq (i := 0) 5 (v := ?v1) rfl rfl (by kernel_rfl) (by kernel_rfl) (by kernel_rfl) (fun _ _ _ h => h) (Or.inl ⟨by rfl, ?y1⟩) hHeld ?r1
  case y1 => (intro w' hSw; skip; go_simp; (try with_reducible rfl))
  try simp only [Act.put, List.setIfInBounds_toArray, List.set_cons_zero, List.set_cons_succ]
  refine takeq (i := 1) 6 (v := ?v2) rfl rfl (by kernel_rfl) (by kernel_rfl) (by kernel_rfl) (fun _ _ _ h => h) (Or.inl ⟨by rfl, ?y2⟩) hHeld ?r2
  case y2 => (intro w' hSw; subst hSw; go_simp; (try with_reducible rfl))
  try simp only [Act.put, List.setIfInBounds_toArray, List.set_cons_zero, List.set_cons_succ]
  refine takeq (i := 2) 7 (v := ?v3) rfl rfl (by kernel_rfl) (by kernel_rfl) (by kernel_rfl) (fun _ _ _ h => h) (Or.inl ⟨by rfl, ?y3⟩) hHeld ?r3
  case y3 => (intro w' hSw; skip; go_simp; (try with_reducible rfl))
  try simp only [Act.put, List.setIfInBounds_toArray, List.set_cons_zero, List.set_cons_succ]
  refine takeq (i := 3) 8 (v := ?v4) rfl rfl (by kernel_rfl) (by kernel_rfl) (by kernel_rfl) (fun _ _ _ h => h) (Or.inl ⟨by rfl, ?y4⟩) hHeld ?r4
  case y4 => (intro w' hSw; skip; go_simp; (try with_reducible rfl))
  try simp only [Act.put, List.setIfInBounds_toArray, List.set_cons_zero, List.set_cons_succ]
  refine takeq (i := 4) 9 (v := ?v5) rfl rfl (by kernel_rfl) (by kernel_rfl) (by kernel_rfl) (fun _ _ _ h => h) (Or.inl ⟨by rfl, ?y5⟩) hHeld ?r5
  case y5 => (intro w' hSw; subst hSw; go_simp; (try with_reducible rfl))
  try simp only [Act.put, List.setIfInBounds_toArray, List.set_cons_zero, List.set_cons_succ]
  refine wpAnyH_ready (rs := [5]) (by kernel_rfl) (by simp) ?_
  refine AllReadyH.cons rfl (fun K hK => ?_) AllReadyH.nil
  go_simp
  refine (KC _).mono ?_
  rintro e z1 ⟨rfl, h1⟩
  subst z1
  go_wp2_with fail
  refine hK.out _ _ ?_ (fun hHeld => ?_)
  · rfl
  clear hK K
  try simp only [Act.put, List.setIfInBounds_toArray, List.set_cons_zero, List.set_cons_succ]
  refine takeq (i := 6) 11 (v := .bool q0) rfl rfl (by kernel_rfl) (by kernel_rfl) (by kernel_rfl) (fun _ _ _ h => h) (Or.inl ⟨by rfl, ?y6⟩) hHeld ?r6
  case y6 => (intro w' hSw; rw [hq0]; go_simp; (try with_reducible rfl))
  try simp only [Act.put, List.setIfInBounds_toArray, List.set_cons_zero, List.set_cons_succ]
  refine wpAnyH_done (by kernel_rfl) ?_ _
  clear hHeld KC hq0
  cases q0 with
  | true =>
    have HNO : Hid (¬ HasA d) := fun hh => by
      have h1 : (d.n : Int) ≠ 0 := bne_iff_ne.1 HQ0.out.symm
      have h2 := hh.n
      rw [HKE.out] at h2
      omega
    clear HQ0
    go_wp2_with fail
    go_ret
    exact Tells.no HNO.out (Below.drew (bl_a _))
  | false =>
    have HK : Hid (d.n = kidsA d.k) := (show _ = _ by
      have h1 : ¬ (d.n : Int) ≠ 0 := fun h => (by have h2 := bne_iff_ne.2 h; rw [← HQ0.out] at h2; cases h2)
      rw [HKE.out]
      omega)
    clear HQ0 HKE
    go_wp2_with fail
    refine (HPO.out _ (bl_alloc (Below.drew (bl_a _)) _)).mono ?_
    rintro e w3 ⟨q3, rfl, hq3, hb3⟩
    have HB3 : Hid (Below w.heap.size w w3) := bl_trans (bl_alloc (Below.drew (bl_a _)) _) hb3
    have HO3 : Hid (OB w3 (w.heap.size + 1) [.int .i64 0, .slice d.pa d.pn d.pc, .int .i64 d.e.d.k, .int .i64 d.e.d.op, .slice d.e.d.v.a d.e.d.v.len d.e.d.v.cap, .int .i64 d.e.d.t.t.k, .slice d.e.d.t.t.a d.e.d.t.t.len d.e.d.t.t.cap, .int .i64 d.e.d.t.t.n, .int .i64 d.e.d.t.t.s, .slice d.e.d.ka d.e.d.n d.e.d.kc, .slice d.v.a d.v.len d.v.cap, .slice d.ta d.tb.length d.tc, .slice d.ka d.n d.kc]) := (show OB _ _ _ by have h := (OB.new ((w.alloc (.cells #[.int .i64 0, .slice d.pa d.pn d.pc, .int .i64 d.e.d.k, .int .i64 d.e.d.op, .slice d.e.d.v.a d.e.d.v.len d.e.d.v.cap, .int .i64 d.e.d.t.t.k, .slice d.e.d.t.t.a d.e.d.t.t.len d.e.d.t.t.cap, .int .i64 d.e.d.t.t.n, .int .i64 d.e.d.t.t.s, .slice d.e.d.ka d.e.d.n d.e.d.kc, .slice d.v.a d.v.len d.v.cap, .slice d.ta d.tb.length d.tc, .slice d.ka d.n d.kc] 43)).drew) #[.int .i64 0, .slice d.pa d.pn d.pc, .int .i64 d.e.d.k, .int .i64 d.e.d.op, .slice d.e.d.v.a d.e.d.v.len d.e.d.v.cap, .int .i64 d.e.d.t.t.k, .slice d.e.d.t.t.a d.e.d.t.t.len d.e.d.t.t.cap, .int .i64 d.e.d.t.t.n, .int .i64 d.e.d.t.t.s, .slice d.e.d.ka d.e.d.n d.e.d.kc, .slice d.v.a d.v.len d.v.cap, .slice d.ta d.tb.length d.tc, .slice d.ka d.n d.kc] 43).below hb3; simpa using h)
    clear hb3 HPO
    have s1 := (HO3.out.2 1 _ rfl).1
    have t1 := (HO3.out.2 1 _ rfl).2
    have HBf : Hid (Below w.heap.size w (w3.setCell ⟨w.heap.size + 1, 1, none⟩ (.slice none 0 0))) := HB3.out.setCell (p := ⟨w.heap.size + 1, 1, none⟩) (Nat.le_succ _) _
    have HR4 : Hid (Box (w3.setCell ⟨w.heap.size + 1, 1, none⟩ (.slice none 0 0)) (w.heap.size + 1) [.int .i64 0, .slice none 0 0, .int .i64 d.e.d.k, .int .i64 d.e.d.op, .slice d.e.d.v.a d.e.d.v.len d.e.d.v.cap, .int .i64 d.e.d.t.t.k, .slice d.e.d.t.t.a d.e.d.t.t.len d.e.d.t.t.cap, .int .i64 d.e.d.t.t.n, .int .i64 d.e.d.t.t.s, .slice d.e.d.ka d.e.d.n d.e.d.kc, .slice d.v.a d.v.len d.v.cap, .slice d.ta d.tb.length d.tc, .slice d.ka d.n d.kc]) := (HO3.out.sets [.slice none 0 0] 1).box
    go_upto_region 18 with fail
    generalize w3.setCell ⟨w.heap.size + 1, 1, none⟩ (.slice none 0 0) = W4 at *
    clear s1 t1 HO3 HB3
    cases q3 with
    | false =>
      have HNO : Hid (¬ HasA d) := fun hh => by have h := hq3.2 ⟨hh.pn, hh.pt⟩; cases h
      clear hq3
      go_wp2_with fail
      go_ret
      exact Tells.no HNO.out HBf.out
    | true =>
      have HPT : Hid (d.pn ≤ 120 ∧ ∀ i, i < d.pn → ptOk (d.pat i)) := hq3.1 rfl
      clear hq3
      have u0 := HR4.out.2 0 _ rfl
      have u1 := HR4.out.2 1 _ rfl
      have u2 := HR4.out.2 2 _ rfl
      have u3 := HR4.out.2 3 _ rfl
      have u4 := HR4.out.2 4 _ rfl
      have u5 := HR4.out.2 5 _ rfl
      have u6 := HR4.out.2 6 _ rfl
      have u7 := HR4.out.2 7 _ rfl
      have u8 := HR4.out.2 8 _ rfl
      have u9 := HR4.out.2 9 _ rfl
      have u10 := HR4.out.2 10 _ rfl
      have u11 := HR4.out.2 11 _ rfl
      have u12 := HR4.out.2 12 _ rfl
      go_wp2_with fail
      refine (HIB.out _ HBf.out).mono ?_
      rintro e w9 ⟨q9, rfl, hq9, hb9⟩
      have HE : Hid (q9 = true ↔ HasA d) := (show (q9 = true ↔ HasA d) from hq9.trans ⟨fun h => ⟨by rw [HKV.out]; decide, by rw [HKV.out]; decide, HK.out, fun h2 => absurd HKV.out h2, HPT.out.1, fun _ => (show d.tb = [] from h.2.2.2), by rw [(show d.tb = [] from h.2.2.2)]; decide, fun _ => h.2.1, fun h2 => absurd h2 (show ¬ hasV d.k by rw [HKV.out]; unfold hasV; decide), fun _ => h.2.2.1, HPT.out.2, fun x hx => by rw [(show d.tb = [] from h.2.2.2)] at hx; cases hx⟩, fun h => BareA.mk rfl (h.e0 (show ¬ hasE d.k by rw [HKV.out]; unfold hasE; decide)) (h.v0 (show ¬ hasV d.k by rw [HKV.out]; unfold hasV; decide)) (h.t0 (by rw [HKV.out]; decide))⟩)
      have HB9 : Hid (Below w.heap.size w w9) := bl_trans HBf.out hb9
      clear hq9 hb9
      go_wp2_with fail
      go_ret
      exact Tells.of HE.out HB9.out

end Go.Proofs.Ytpgbhkkdbkecoaa

/- TreV1 -/
namespace Go.Proofs.Ytpgbhkkdbkecoaa
open Go.RowKit Go.Deep
set_option maxRecDepth 100000

set_option maxHeartbeats 8000000 in
theorem hasOwnA_1 (d : AN) (kid : Nat → AT) (w : World) (hkv : d.k = 1) (hl : (AT.mk d kid).lies 0 w) : Calls Try.prog 77 #[.agg #[.int .i64 d.k, .slice d.pa d.pn d.pc, .int .i64 d.e.d.k, .int .i64 d.e.d.op, .slice d.e.d.v.a d.e.d.v.len d.e.d.v.cap, .int .i64 d.e.d.t.t.k, .slice d.e.d.t.t.a d.e.d.t.t.len d.e.d.t.t.cap, .int .i64 d.e.d.t.t.n, .int .i64 d.e.d.t.t.s, .slice d.e.d.ka d.e.d.n d.e.d.kc, .slice d.v.a d.v.len d.v.cap, .slice d.ta d.tb.length d.tc, .slice d.ka d.n d.kc]] w (Tells (HasA d) w) := by
  obtain ⟨hp, hpl, hpn, he, hv, ht, htn, hn, _⟩ := hl
  have KC := fun W => algKidCount_any 1 W
  have e1 : pKids 1 = 2 := by decide
  rw [e1] at KC
  clear e1
  have HKE : Hid (kidsA d.k = 2) := (show _ = _ by rw [hkv]; decide)
  have HKV : Hid (d.k = 1) := hkv
  have HIB : Hid (∀ W, Below w.heap.size w W → Calls Try.prog 92 #[.agg #[.int .i64 1, .slice d.pa d.pn d.pc, .int .i64 d.e.d.k, .int .i64 d.e.d.op, .slice d.e.d.v.a d.e.d.v.len d.e.d.v.cap, .int .i64 d.e.d.t.t.k, .slice d.e.d.t.t.a d.e.d.t.t.len d.e.d.t.t.cap, .int .i64 d.e.d.t.t.n, .int .i64 d.e.d.t.t.s, .slice d.e.d.ka d.e.d.n d.e.d.kc, .slice d.v.a d.v.len d.v.cap, .slice d.ta d.tb.length d.tc, .slice d.ka d.n d.kc]] W (Tells (BareA ⟨1, d.pa, d.pc, d.pn, d.pat, d.e, d.v, d.ta, d.tc, d.tb, d.ka, d.kc, d.n⟩) W)) := fun W hb => isBareA_any ⟨1, d.pa, d.pc, d.pn, d.pat, d.e, d.v, d.ta, d.tc, d.tb, d.ka, d.kc, d.n⟩ W (ET.lies.upper (Upper.of_below hb) he) (hv.upper (Upper.of_below hb))
  rw [hkv]
  clear hp hpl hpn he hv ht htn hkv
  go_enter Try.func77, Try.ntmps77
  go_upto_region 1 with fail
  obtain ⟨q0, hq0⟩ : ∃ q0, q0 = ((d.n : Int) != 2) := ⟨_, rfl⟩
  have HQ0 : Hid (q0 = ((d.n : Int) != 2)) := hq0
  refine wp_region_held_drew (S := fun w' => w' = ((w.alloc (.cells #[.int .i64 1, .slice d.pa d.pn d.pc, .int .i64 d.e.d.k, .int .i64 d.e.d.op, .slice d.e.d.v.a d.e.d.v.len d.e.d.v.cap, .int .i64 d.e.d.t.t.k, .slice d.e.d.t.t.a d.e.d.t.t.len d.e.d.t.t.cap, .int .i64 d.e.d.t.t.n, .int .i64 d.e.d.t.t.s, .slice d.e.d.ka d.e.d.n d.e.d.kc, .slice d.v.a d.v.len d.v.cap, .slice d.ta d.tb.length d.tc, .slice d.ka d.n d.kc] 43)).drew)) (by kernel_rfl) ?_ (fun hHeld => ?_)
  · rfl
  refine takeq (i := 0) 5 (v := ?v7) rfl rfl (by kernel_rfl) (by kernel_rfl) (by kernel_rfl) (fun _ _ _ h => h) (Or.inl ⟨by rfl, ?y7⟩) hHeld ?r7
  case y7 => (intro w' hSw; skip; go_simp; (try with_reducible rfl))
  try simp only [Act.put, List.setIfInBounds_toArray, List.set_cons_zero, List.set_cons_succ]
  refine takeq (i := 1) 6 (v := ?v8) rfl rfl (by kernel_rfl) (by kernel_rfl) (by kernel_rfl) (fun _ _ _ h => h) (Or.inl ⟨by rfl, ?y8⟩) hHeld ?r8
  case y8 => (intro w' hSw; subst hSw; go_simp; (try with_reducible rfl))
  try simp only [Act.put, List.setIfInBounds_toArray, List.set_cons_zero, List.set_cons_succ]
  refine takeq (i := 2) 7 (v := ?v9) rfl rfl (by kernel_rfl) (by kernel_rfl) (by kernel_rfl) (fun _ _ _ h => h) (Or.inl ⟨by rfl, ?y9⟩) hHeld ?r9
  case y9 => (intro w' hSw; skip; go_simp; (try with_reducible rfl))
  try simp only [Act.put, List.setIfInBounds_toArray, List.set_cons_zero, List.set_cons_succ]
  refine takeq (i := 3) 8 (v := ?v10) rfl rfl (by kernel_rfl) (by kernel_rfl) (by kernel_rfl) (fun _ _ _ h => h) (Or.inl ⟨by rfl, ?y10⟩) hHeld ?r10
  case y10 => (intro w' hSw; skip; go_simp; (try with_reducible rfl))
  try simp only [Act.put, List.setIfInBounds_toArray, List.set_cons_zero, List.set_cons_succ]
  refine takeq (i := 4) 9 (v := ?v11) rfl rfl (by kernel_rfl) (by kernel_rfl) (by kernel_rfl) (fun _ _ _ h => h) (Or.inl ⟨by rfl, ?y11⟩) hHeld ?r11
  case y11 => (intro w' hSw; subst hSw; go_simp; (try with_reducible rfl))
  try simp only [Act.put, List.setIfInBounds_toArray, List.set_cons_zero, List.set_cons_succ]
  refine wpAnyH_ready (rs := [5]) (by kernel_rfl) (by simp) ?_
  refine AllReadyH.cons rfl (fun K hK => ?_) AllReadyH.nil
  go_simp
  refine (KC _).mono ?_
  rintro e z1 ⟨rfl, h1⟩
  subst z1
  go_wp2_with fail
  refine hK.out _ _ ?_ (fun hHeld => ?_)
  · rfl
  clear hK K
  try simp only [Act.put, List.setIfInBounds_toArray, List.set_cons_zero, List.set_cons_succ]
  refine takeq (i := 6) 11 (v := .bool q0) rfl rfl (by kernel_rfl) (by kernel_rfl) (by kernel_rfl) (fun _ _ _ h => h) (Or.inl ⟨by rfl, ?y12⟩) hHeld ?r12
  case y12 => (intro w' hSw; rw [hq0]; go_simp; (try with_reducible rfl))
  try simp only [Act.put, List.setIfInBounds_toArray, List.set_cons_zero, List.set_cons_succ]
  refine wpAnyH_done (by kernel_rfl) ?_ _
  clear hHeld KC hq0
  cases q0 with
  | true =>
    have HNO : Hid (¬ HasA d) := fun hh => by
      have h1 : (d.n : Int) ≠ 2 := bne_iff_ne.1 HQ0.out.symm
      have h2 := hh.n
      rw [HKE.out] at h2
      omega
    clear HQ0
    go_wp2_with fail
    go_ret
    exact Tells.no HNO.out (Below.drew (bl_a _))
  | false =>
    have HK : Hid (d.n = kidsA d.k) := (show _ = _ by
      have h1 : ¬ (d.n : Int) ≠ 2 := fun h => (by have h2 := bne_iff_ne.2 h; rw [← HQ0.out] at h2; cases h2)
      rw [HKE.out]
      omega)
    clear HQ0 HKE
    go_wp2_with fail
    refine (HIB.out _ (bl_alloc (Below.drew (bl_a _)) _)).mono ?_
    rintro e w9 ⟨q9, rfl, hq9, hb9⟩
    have HE : Hid (q9 = true ↔ HasA d) := (show (q9 = true ↔ HasA d) from hq9.trans ⟨fun h => ⟨by rw [HKV.out]; decide, by rw [HKV.out]; decide, HK.out, fun _ => (show d.pn = 0 from h.1), by rw [(show d.pn = 0 from h.1)]; decide, fun _ => (show d.tb = [] from h.2.2.2), by rw [(show d.tb = [] from h.2.2.2)]; decide, fun _ => h.2.1, fun h2 => absurd h2 (show ¬ hasV d.k by rw [HKV.out]; unfold hasV; decide), fun _ => h.2.2.1, fun i hi => by rw [(show d.pn = 0 from h.1)] at hi; exact absurd hi (Nat.not_lt_zero _), fun x hx => by rw [(show d.tb = [] from h.2.2.2)] at hx; cases hx⟩, fun h => BareA.mk (h.p0 (by rw [HKV.out]; decide)) (h.e0 (show ¬ hasE d.k by rw [HKV.out]; unfold hasE; decide)) (h.v0 (show ¬ hasV d.k by rw [HKV.out]; unfold hasV; decide)) (h.t0 (by rw [HKV.out]; decide))⟩)
    have HB9 : Hid (Below w.heap.size w w9) := bl_trans (bl_alloc (Below.drew (bl_a _)) _) hb9
    clear hq9 hb9
    go_wp2_with fail
    go_ret
    exact Tells.of HE.out HB9.out

end Go.Proofs.Ytpgbhkkdbkecoaa

/- TreV2 -/
namespace Go.Proofs.Ytpgbhkkdbkecoaa
open Go.RowKit Go.Deep
set_option maxRecDepth 100000

set_option maxHeartbeats 8000000 in
theorem hasOwnA_2 (d : AN) (kid : Nat → AT) (w : World) (hkv : d.k = 2) (hl : (AT.mk d kid).lies 0 w) : Calls Try.prog 77 #[.agg #[.int .i64 d.k, .slice d.pa d.pn d.pc, .int .i64 d.e.d.k, .int .i64 d.e.d.op, .slice d.e.d.v.a d.e.d.v.len d.e.d.v.cap, .int .i64 d.e.d.t.t.k, .slice d.e.d.t.t.a d.e.d.t.t.len d.e.d.t.t.cap, .int .i64 d.e.d.t.t.n, .int .i64 d.e.d.t.t.s, .slice d.e.d.ka d.e.d.n d.e.d.kc, .slice d.v.a d.v.len d.v.cap, .slice d.ta d.tb.length d.tc, .slice d.ka d.n d.kc]] w (Tells (HasA d) w) := by
  obtain ⟨hp, hpl, hpn, he, hv, ht, htn, hn, _⟩ := hl
  have KC := fun W => algKidCount_any 2 W
  have e1 : pKids 2 = 2 := by decide
  rw [e1] at KC
  clear e1
  have HKE : Hid (kidsA d.k = 2) := (show _ = _ by rw [hkv]; decide)
  have HKV : Hid (d.k = 2) := hkv
  have HIB : Hid (∀ W, Below w.heap.size w W → Calls Try.prog 92 #[.agg #[.int .i64 2, .slice d.pa d.pn d.pc, .int .i64 0, .int .i64 0, .slice none 0 0, .int .i64 0, .slice none 0 0, .int .i64 0, .int .i64 0, .slice none 0 0, .slice d.v.a d.v.len d.v.cap, .slice d.ta d.tb.length d.tc, .slice d.ka d.n d.kc]] W (Tells (BareA ⟨2, d.pa, d.pc, d.pn, d.pat, ET0, d.v, d.ta, d.tc, d.tb, d.ka, d.kc, d.n⟩) W)) := fun W hb => isBareA_any ⟨2, d.pa, d.pc, d.pn, d.pat, ET0, d.v, d.ta, d.tc, d.tb, d.ka, d.kc, d.n⟩ W (ET0_lies W) (hv.upper (Upper.of_below hb))
  rw [hkv]
  clear hp hpl hpn he hv ht htn hkv
  go_enter Try.func77, Try.ntmps77
  go_upto_region 1 with fail
  obtain ⟨q0, hq0⟩ : ∃ q0, q0 = ((d.n : Int) != 2) := ⟨_, rfl⟩
  have HQ0 : Hid (q0 = ((d.n : Int) != 2)) := hq0
  refine wp_region_held_drew (S := fun w' => w' = ((w.alloc (.cells #[.int .i64 2, .slice d.pa d.pn d.pc, .int .i64 d.e.d.k, .int .i64 d.e.d.op, .slice d.e.d.v.a d.e.d.v.len d.e.d.v.cap, .int .i64 d.e.d.t.t.k, .slice d.e.d.t.t.a d.e.d.t.t.len d.e.d.t.t.cap, .int .i64 d.e.d.t.t.n, .int .i64 d.e.d.t.t.s, .slice d.e.d.ka d.e.d.n d.e.d.kc, .slice d.v.a d.v.len d.v.cap, .slice d.ta d.tb.length d.tc, .slice d.ka d.n d.kc] 43)).drew)) (by kernel_rfl) ?_ (fun hHeld => ?_)
  · rfl
  refine takeq (i := 0) 5 (v := ?v13) rfl rfl (by kernel_rfl) (by kernel_rfl) (by kernel_rfl) (fun _ _ _ h => h) (Or.inl ⟨by rfl, ?y13⟩) hHeld ?r13
  case y13 => (intro w' hSw; skip; go_simp; (try with_reducible rfl))
  try simp only [Act.put, List.setIfInBounds_toArray, List.set_cons_zero, List.set_cons_succ]
  refine takeq (i := 1) 6 (v := ?v14) rfl rfl (by kernel_rfl) (by kernel_rfl) (by kernel_rfl) (fun _ _ _ h => h) (Or.inl ⟨by rfl, ?y14⟩) hHeld ?r14
  case y14 => (intro w' hSw; subst hSw; go_simp; (try with_reducible rfl))
  try simp only [Act.put, List.setIfInBounds_toArray, List.set_cons_zero, List.set_cons_succ]
  refine takeq (i := 2) 7 (v := ?v15) rfl rfl (by kernel_rfl) (by kernel_rfl) (by kernel_rfl) (fun _ _ _ h => h) (Or.inl ⟨by rfl, ?y15⟩) hHeld ?r15
  case y15 => (intro w' hSw; skip; go_simp; (try with_reducible rfl))
  try simp only [Act.put, List.setIfInBounds_toArray, List.set_cons_zero, List.set_cons_succ]
  refine takeq (i := 3) 8 (v := ?v16) rfl rfl (by kernel_rfl) (by kernel_rfl) (by kernel_rfl) (fun _ _ _ h => h) (Or.inl ⟨by rfl, ?y16⟩) hHeld ?r16
  case y16 => (intro w' hSw; skip; go_simp; (try with_reducible rfl))
  try simp only [Act.put, List.setIfInBounds_toArray, List.set_cons_zero, List.set_cons_succ]
  refine takeq (i := 4) 9 (v := ?v17) rfl rfl (by kernel_rfl) (by kernel_rfl) (by kernel_rfl) (fun _ _ _ h => h) (Or.inl ⟨by rfl, ?y17⟩) hHeld ?r17
  case y17 => (intro w' hSw; subst hSw; go_simp; (try with_reducible rfl))
  try simp only [Act.put, List.setIfInBounds_toArray, List.set_cons_zero, List.set_cons_succ]
  refine wpAnyH_ready (rs := [5]) (by kernel_rfl) (by simp) ?_
  refine AllReadyH.cons rfl (fun K hK => ?_) AllReadyH.nil
  go_simp
  refine (KC _).mono ?_
  rintro e z1 ⟨rfl, h1⟩
  subst z1
  go_wp2_with fail
  refine hK.out _ _ ?_ (fun hHeld => ?_)
  · rfl
  clear hK K
  try simp only [Act.put, List.setIfInBounds_toArray, List.set_cons_zero, List.set_cons_succ]
  refine takeq (i := 6) 11 (v := .bool q0) rfl rfl (by kernel_rfl) (by kernel_rfl) (by kernel_rfl) (fun _ _ _ h => h) (Or.inl ⟨by rfl, ?y18⟩) hHeld ?r18
  case y18 => (intro w' hSw; rw [hq0]; go_simp; (try with_reducible rfl))
  try simp only [Act.put, List.setIfInBounds_toArray, List.set_cons_zero, List.set_cons_succ]
  refine wpAnyH_done (by kernel_rfl) ?_ _
  clear hHeld KC hq0
  cases q0 with
  | true =>
    have HNO : Hid (¬ HasA d) := fun hh => by
      have h1 : (d.n : Int) ≠ 2 := bne_iff_ne.1 HQ0.out.symm
      have h2 := hh.n
      rw [HKE.out] at h2
      omega
    clear HQ0
    go_wp2_with fail
    go_ret
    exact Tells.no HNO.out (Below.drew (bl_a _))
  | false =>
    have HK : Hid (d.n = kidsA d.k) := (show _ = _ by
      have h1 : ¬ (d.n : Int) ≠ 2 := fun h => (by have h2 := bne_iff_ne.2 h; rw [← HQ0.out] at h2; cases h2)
      rw [HKE.out]
      omega)
    clear HQ0 HKE
    go_wp2_with fail
    refine (HIB.out _ (bl_alloc (Below.drew (bl_a _)) _)).mono ?_
    rintro e w9 ⟨q9, rfl, hq9, hb9⟩
    have HE : Hid (q9 = true ↔ HasA d) := (show (q9 = true ↔ HasA d) from hq9.trans ⟨fun h => ⟨by rw [HKV.out]; decide, by rw [HKV.out]; decide, HK.out, fun _ => (show d.pn = 0 from h.1), by rw [(show d.pn = 0 from h.1)]; decide, fun _ => (show d.tb = [] from h.2.2.2), by rw [(show d.tb = [] from h.2.2.2)]; decide, fun h2 => absurd (show hasE d.k by rw [HKV.out]; unfold hasE; decide) h2, fun h2 => absurd h2 (show ¬ hasV d.k by rw [HKV.out]; unfold hasV; decide), fun _ => h.2.2.1, fun i hi => by rw [(show d.pn = 0 from h.1)] at hi; exact absurd hi (Nat.not_lt_zero _), fun x hx => by rw [(show d.tb = [] from h.2.2.2)] at hx; cases hx⟩, fun h => BareA.mk (h.p0 (by rw [HKV.out]; decide)) ET0_zero (h.v0 (show ¬ hasV d.k by rw [HKV.out]; unfold hasV; decide)) (h.t0 (by rw [HKV.out]; decide))⟩)
    have HB9 : Hid (Below w.heap.size w w9) := bl_trans (bl_alloc (Below.drew (bl_a _)) _) hb9
    clear hq9 hb9
    go_wp2_with fail
    go_ret
    exact Tells.of HE.out HB9.out

end Go.Proofs.Ytpgbhkkdbkecoaa

/- TreV3 -/
namespace Go.Proofs.Ytpgbhkkdbkecoaa
open Go.RowKit Go.Deep
set_option maxRecDepth 100000

set_option maxHeartbeats 8000000 in
theorem hasOwnA_3 (d : AN) (kid : Nat → AT) (w : World) (hkv : d.k = 3) (hl : (AT.mk d kid).lies 0 w) : Calls Try.prog 77 #[.agg #[.int .i64 d.k, .slice d.pa d.pn d.pc, .int .i64 d.e.d.k, .int .i64 d.e.d.op, .slice d.e.d.v.a d.e.d.v.len d.e.d.v.cap, .int .i64 d.e.d.t.t.k, .slice d.e.d.t.t.a d.e.d.t.t.len d.e.d.t.t.cap, .int .i64 d.e.d.t.t.n, .int .i64 d.e.d.t.t.s, .slice d.e.d.ka d.e.d.n d.e.d.kc, .slice d.v.a d.v.len d.v.cap, .slice d.ta d.tb.length d.tc, .slice d.ka d.n d.kc]] w (Tells (HasA d) w) := by
  obtain ⟨hp, hpl, hpn, he, hv, ht, htn, hn, _⟩ := hl
  have KC := fun W => algKidCount_any 3 W
  have e1 : pKids 3 = 2 := by decide
  rw [e1] at KC
  clear e1
  have HKE : Hid (kidsA d.k = 2) := (show _ = _ by rw [hkv]; decide)
  have HKV : Hid (d.k = 3) := hkv
  have HIB : Hid (∀ W, Below w.heap.size w W → Calls Try.prog 92 #[.agg #[.int .i64 3, .slice d.pa d.pn d.pc, .int .i64 d.e.d.k, .int .i64 d.e.d.op, .slice d.e.d.v.a d.e.d.v.len d.e.d.v.cap, .int .i64 d.e.d.t.t.k, .slice d.e.d.t.t.a d.e.d.t.t.len d.e.d.t.t.cap, .int .i64 d.e.d.t.t.n, .int .i64 d.e.d.t.t.s, .slice d.e.d.ka d.e.d.n d.e.d.kc, .slice d.v.a d.v.len d.v.cap, .slice d.ta d.tb.length d.tc, .slice d.ka d.n d.kc]] W (Tells (BareA ⟨3, d.pa, d.pc, d.pn, d.pat, d.e, d.v, d.ta, d.tc, d.tb, d.ka, d.kc, d.n⟩) W)) := fun W hb => isBareA_any ⟨3, d.pa, d.pc, d.pn, d.pat, d.e, d.v, d.ta, d.tc, d.tb, d.ka, d.kc, d.n⟩ W (ET.lies.upper (Upper.of_below hb) he) (hv.upper (Upper.of_below hb))
  rw [hkv]
  clear hp hpl hpn he hv ht htn hkv
  go_enter Try.func77, Try.ntmps77
  go_upto_region 1 with fail
  obtain ⟨q0, hq0⟩ : ∃ q0, q0 = ((d.n : Int) != 2) := ⟨_, rfl⟩
  have HQ0 : Hid (q0 = ((d.n : Int) != 2)) := hq0
  refine wp_region_held_drew (S := fun w' => w' = ((w.alloc (.cells #[.int .i64 3, .slice d.pa d.pn d.pc, .int .i64 d.e.d.k, .int .i64 d.e.d.op, .slice d.e.d.v.a d.e.d.v.len d.e.d.v.cap, .int .i64 d.e.d.t.t.k, .slice d.e.d.t.t.a d.e.d.t.t.len d.e.d.t.t.cap, .int .i64 d.e.d.t.t.n, .int .i64 d.e.d.t.t.s, .slice d.e.d.ka d.e.d.n d.e.d.kc, .slice d.v.a d.v.len d.v.cap, .slice d.ta d.tb.length d.tc, .slice d.ka d.n d.kc] 43)).drew)) (by kernel_rfl) ?_ (fun hHeld => ?_)
  · rfl
  refine takeq (i := 0) 5 (v := ?v19) rfl rfl (by kernel_rfl) (by kernel_rfl) (by kernel_rfl) (fun _ _ _ h => h) (Or.inl ⟨by rfl, ?y19⟩) hHeld ?r19
  case y19 => (intro w' hSw; skip; go_simp; (try with_reducible rfl))
  try simp only [Act.put, List.setIfInBounds_toArray, List.set_cons_zero, List.set_cons_succ]
  refine takeq (i := 1) 6 (v := ?v20) rfl rfl (by kernel_rfl) (by kernel_rfl) (by kernel_rfl) (fun _ _ _ h => h) (Or.inl ⟨by rfl, ?y20⟩) hHeld ?r20
  case y20 => (intro w' hSw; subst hSw; go_simp; (try with_reducible rfl))
  try simp only [Act.put, List.setIfInBounds_toArray, List.set_cons_zero, List.set_cons_succ]
  refine takeq (i := 2) 7 (v := ?v21) rfl rfl (by kernel_rfl) (by kernel_rfl) (by kernel_rfl) (fun _ _ _ h => h) (Or.inl ⟨by rfl, ?y21⟩) hHeld ?r21
  case y21 => (intro w' hSw; skip; go_simp; (try with_reducible rfl))
  try simp only [Act.put, List.setIfInBounds_toArray, List.set_cons_zero, List.set_cons_succ]
  refine takeq (i := 3) 8 (v := ?v22) rfl rfl (by kernel_rfl) (by kernel_rfl) (by kernel_rfl) (fun _ _ _ h => h) (Or.inl ⟨by rfl, ?y22⟩) hHeld ?r22
  case y22 => (intro w' hSw; skip; go_simp; (try with_reducible rfl))
  try simp only [Act.put, List.setIfInBounds_toArray, List.set_cons_zero, List.set_cons_succ]
  refine takeq (i := 4) 9 (v := ?v23) rfl rfl (by kernel_rfl) (by kernel_rfl) (by kernel_rfl) (fun _ _ _ h => h) (Or.inl ⟨by rfl, ?y23⟩) hHeld ?r23
  case y23 => (intro w' hSw; subst hSw; go_simp; (try with_reducible rfl))
  try simp only [Act.put, List.setIfInBounds_toArray, List.set_cons_zero, List.set_cons_succ]
  refine wpAnyH_ready (rs := [5]) (by kernel_rfl) (by simp) ?_
  refine AllReadyH.cons rfl (fun K hK => ?_) AllReadyH.nil
  go_simp
  refine (KC _).mono ?_
  rintro e z1 ⟨rfl, h1⟩
  subst z1
  go_wp2_with fail
  refine hK.out _ _ ?_ (fun hHeld => ?_)
  · rfl
  clear hK K
  try simp only [Act.put, List.setIfInBounds_toArray, List.set_cons_zero, List.set_cons_succ]
  refine takeq (i := 6) 11 (v := .bool q0) rfl rfl (by kernel_rfl) (by kernel_rfl) (by kernel_rfl) (fun _ _ _ h => h) (Or.inl ⟨by rfl, ?y24⟩) hHeld ?r24
  case y24 => (intro w' hSw; rw [hq0]; go_simp; (try with_reducible rfl))
  try simp only [Act.put, List.setIfInBounds_toArray, List.set_cons_zero, List.set_cons_succ]
  refine wpAnyH_done (by kernel_rfl) ?_ _
  clear hHeld KC hq0
  cases q0 with
  | true =>
    have HNO : Hid (¬ HasA d) := fun hh => by
      have h1 : (d.n : Int) ≠ 2 := bne_iff_ne.1 HQ0.out.symm
      have h2 := hh.n
      rw [HKE.out] at h2
      omega
    clear HQ0
    go_wp2_with fail
    go_ret
    exact Tells.no HNO.out (Below.drew (bl_a _))
  | false =>
    have HK : Hid (d.n = kidsA d.k) := (show _ = _ by
      have h1 : ¬ (d.n : Int) ≠ 2 := fun h => (by have h2 := bne_iff_ne.2 h; rw [← HQ0.out] at h2; cases h2)
      rw [HKE.out]
      omega)
    clear HQ0 HKE
    go_wp2_with fail
    refine (HIB.out _ (bl_alloc (Below.drew (bl_a _)) _)).mono ?_
    rintro e w9 ⟨q9, rfl, hq9, hb9⟩
    have HE : Hid (q9 = true ↔ HasA d) := (show (q9 = true ↔ HasA d) from hq9.trans ⟨fun h => ⟨by rw [HKV.out]; decide, by rw [HKV.out]; decide, HK.out, fun _ => (show d.pn = 0 from h.1), by rw [(show d.pn = 0 from h.1)]; decide, fun _ => (show d.tb = [] from h.2.2.2), by rw [(show d.tb = [] from h.2.2.2)]; decide, fun _ => h.2.1, fun h2 => absurd h2 (show ¬ hasV d.k by rw [HKV.out]; unfold hasV; decide), fun _ => h.2.2.1, fun i hi => by rw [(show d.pn = 0 from h.1)] at hi; exact absurd hi (Nat.not_lt_zero _), fun x hx => by rw [(show d.tb = [] from h.2.2.2)] at hx; cases hx⟩, fun h => BareA.mk (h.p0 (by rw [HKV.out]; decide)) (h.e0 (show ¬ hasE d.k by rw [HKV.out]; unfold hasE; decide)) (h.v0 (show ¬ hasV d.k by rw [HKV.out]; unfold hasV; decide)) (h.t0 (by rw [HKV.out]; decide))⟩)
    have HB9 : Hid (Below w.heap.size w w9) := bl_trans (bl_alloc (Below.drew (bl_a _)) _) hb9
    clear hq9 hb9
    go_wp2_with fail
    go_ret
    exact Tells.of HE.out HB9.out

end Go.Proofs.Ytpgbhkkdbkecoaa
