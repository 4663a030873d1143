/- Texts put together: TreV4 TreV5 TreV6 -/
import Derived.Test.YtpgbhkkdbkecoaaMk27
/- TreV4 -/
namespace Go.Proofs.Ytpgbhkkdbkecoaa
open Go.RowKit Go.Deep
set_option maxRecDepth 100000

set_option maxHeartbeats 8000000 in
theorem hasOwnA_4 (d : AN) (kid : Nat → AT) (w : World) (hkv : d.k = 4) (hl : (AT.mk d kid).lies 0 w) : Calls Try.prog 77 #[.agg #[.int .i64 d.k, .slice d.pa d.pn d.pc, .int .i64 d.e.d.k, .int .i64 d.e.d.op, .slice d.e.d.v.a d.e.d.v.len d.e.d.v.cap, .int .i64 d.e.d.t.t.k, .slice d.e.d.t.t.a d.e.d.t.t.len d.e.d.t.t.cap, .int .i64 d.e.d.t.t.n, .int .i64 d.e.d.t.t.s, .slice d.e.d.ka d.e.d.n d.e.d.kc, .slice d.v.a d.v.len d.v.cap, .slice d.ta d.tb.length d.tc, .slice d.ka d.n d.kc]] w (Tells (HasA d) w) := by
  obtain ⟨hp, hpl, hpn, he, hv, ht, htn, hn, _⟩ := hl
  have KC := fun W => algKidCount_any 4 W
  have e1 : pKids 4 = 2 := by decide
  rw [e1] at KC
  clear e1
  have HKE : Hid (kidsA d.k = 2) := (show _ = _ by rw [hkv]; decide)
  have HKV : Hid (d.k = 4) := hkv
  have HIB : Hid (∀ W, Below w.heap.size w W → Calls Try.prog 92 #[.agg #[.int .i64 4, .slice d.pa d.pn d.pc, .int .i64 d.e.d.k, .int .i64 d.e.d.op, .slice d.e.d.v.a d.e.d.v.len d.e.d.v.cap, .int .i64 d.e.d.t.t.k, .slice d.e.d.t.t.a d.e.d.t.t.len d.e.d.t.t.cap, .int .i64 d.e.d.t.t.n, .int .i64 d.e.d.t.t.s, .slice d.e.d.ka d.e.d.n d.e.d.kc, .slice d.v.a d.v.len d.v.cap, .slice d.ta d.tb.length d.tc, .slice d.ka d.n d.kc]] W (Tells (BareA ⟨4, d.pa, d.pc, d.pn, d.pat, d.e, d.v, d.ta, d.tc, d.tb, d.ka, d.kc, d.n⟩) W)) := fun W hb => isBareA_any ⟨4, d.pa, d.pc, d.pn, d.pat, d.e, d.v, d.ta, d.tc, d.tb, d.ka, d.kc, d.n⟩ W (ET.lies.upper (Upper.of_below hb) he) (hv.upper (Upper.of_below hb))
  rw [hkv]
  clear hp hpl hpn he hv ht htn hkv
  go_enter Try.func77, Try.ntmps77
  go_upto_region 1 with fail
  obtain ⟨q0, hq0⟩ : ∃ q0, q0 = ((d.n : Int) != 2) := ⟨_, rfl⟩
  have HQ0 : Hid (q0 = ((d.n : Int) != 2)) := hq0
  refine wp_region_held_drew (S := fun w' => w' = ((w.alloc (.cells #[.int .i64 4, .slice d.pa d.pn d.pc, .int .i64 d.e.d.k, .int .i64 d.e.d.op, .slice d.e.d.v.a d.e.d.v.len d.e.d.v.cap, .int .i64 d.e.d.t.t.k, .slice d.e.d.t.t.a d.e.d.t.t.len d.e.d.t.t.cap, .int .i64 d.e.d.t.t.n, .int .i64 d.e.d.t.t.s, .slice d.e.d.ka d.e.d.n d.e.d.kc, .slice d.v.a d.v.len d.v.cap, .slice d.ta d.tb.length d.tc, .slice d.ka d.n d.kc] 43)).drew)) (by kernel_rfl) ?_ (fun hHeld => ?_)
  · rfl
  refine takeq (i := 0) 5 (v := ?v25) rfl rfl (by kernel_rfl) (by kernel_rfl) (by kernel_rfl) (fun _ _ _ h => h) (Or.inl ⟨by rfl, ?y25⟩) hHeld ?r25
  case y25 => (intro w' hSw; skip; go_simp; (try with_reducible rfl))
  try simp only [Act.put, List.setIfInBounds_toArray, List.set_cons_zero, List.set_cons_succ]
  refine takeq (i := 1) 6 (v := ?v26) rfl rfl (by kernel_rfl) (by kernel_rfl) (by kernel_rfl) (fun _ _ _ h => h) (Or.inl ⟨by rfl, ?y26⟩) hHeld ?r26
  case y26 => (intro w' hSw; subst hSw; go_simp; (try with_reducible rfl))
  try simp only [Act.put, List.setIfInBounds_toArray, List.set_cons_zero, List.set_cons_succ]
  refine takeq (i := 2) 7 (v := ?v27) rfl rfl (by kernel_rfl) (by kernel_rfl) (by kernel_rfl) (fun _ _ _ h => h) (Or.inl ⟨by rfl, ?y27⟩) hHeld ?r27
  case y27 => (intro w' hSw; skip; go_simp; (try with_reducible rfl))
  try simp only [Act.put, List.setIfInBounds_toArray, List.set_cons_zero, List.set_cons_succ]
  refine takeq (i := 3) 8 (v := ?v28) rfl rfl (by kernel_rfl) (by kernel_rfl) (by kernel_rfl) (fun _ _ _ h => h) (Or.inl ⟨by rfl, ?y28⟩) hHeld ?r28
  case y28 => (intro w' hSw; skip; go_simp; (try with_reducible rfl))
  try simp only [Act.put, List.setIfInBounds_toArray, List.set_cons_zero, List.set_cons_succ]
  refine takeq (i := 4) 9 (v := ?v29) rfl rfl (by kernel_rfl) (by kernel_rfl) (by kernel_rfl) (fun _ _ _ h => h) (Or.inl ⟨by rfl, ?y29⟩) hHeld ?r29
  case y29 => (intro w' hSw; subst hSw; go_simp; (try with_reducible rfl))
  try simp only [Act.put, List.setIfInBounds_toArray, List.set_cons_zero, List.set_cons_succ]
  refine wpAnyH_ready (rs := [5]) (by kernel_rfl) (by simp) ?_
  refine AllReadyH.cons rfl (fun K hK => ?_) AllReadyH.nil
  go_simp
  refine (KC _).mono ?_
  rintro e z1 ⟨rfl, h1⟩
  subst z1
  go_wp2_with fail
  refine hK.out _ _ ?_ (fun hHeld => ?_)
  · rfl
  clear hK K
  try simp only [Act.put, List.setIfInBounds_toArray, List.set_cons_zero, List.set_cons_succ]
  refine takeq (i := 6) 11 (v := .bool q0) rfl rfl (by kernel_rfl) (by kernel_rfl) (by kernel_rfl) (fun _ _ _ h => h) (Or.inl ⟨by rfl, ?y30⟩) hHeld ?r30
  case y30 => (intro w' hSw; rw [hq0]; go_simp; (try with_reducible rfl))
  try simp only [Act.put, List.setIfInBounds_toArray, List.set_cons_zero, List.set_cons_succ]
  refine wpAnyH_done (by kernel_rfl) ?_ _
  clear hHeld KC hq0
  cases q0 with
  | true =>
    have HNO : Hid (¬ HasA d) := fun hh => by
      have h1 : (d.n : Int) ≠ 2 := bne_iff_ne.1 HQ0.out.symm
      have h2 := hh.n
      rw [HKE.out] at h2
      omega
    clear HQ0
    go_wp2_with fail
    go_ret
    exact Tells.no HNO.out (Below.drew (bl_a _))
  | false =>
    have HK : Hid (d.n = kidsA d.k) := (show _ = _ by
      have h1 : ¬ (d.n : Int) ≠ 2 := fun h => (by have h2 := bne_iff_ne.2 h; rw [← HQ0.out] at h2; cases h2)
      rw [HKE.out]
      omega)
    clear HQ0 HKE
    go_wp2_with fail
    refine (HIB.out _ (bl_alloc (Below.drew (bl_a _)) _)).mono ?_
    rintro e w9 ⟨q9, rfl, hq9, hb9⟩
    have HE : Hid (q9 = true ↔ HasA d) := (show (q9 = true ↔ HasA d) from hq9.trans ⟨fun h => ⟨by rw [HKV.out]; decide, by rw [HKV.out]; decide, HK.out, fun _ => (show d.pn = 0 from h.1), by rw [(show d.pn = 0 from h.1)]; decide, fun _ => (show d.tb = [] from h.2.2.2), by rw [(show d.tb = [] from h.2.2.2)]; decide, fun _ => h.2.1, fun h2 => absurd h2 (show ¬ hasV d.k by rw [HKV.out]; unfold hasV; decide), fun _ => h.2.2.1, fun i hi => by rw [(show d.pn = 0 from h.1)] at hi; exact absurd hi (Nat.not_lt_zero _), fun x hx => by rw [(show d.tb = [] from h.2.2.2)] at hx; cases hx⟩, fun h => BareA.mk (h.p0 (by rw [HKV.out]; decide)) (h.e0 (show ¬ hasE d.k by rw [HKV.out]; unfold hasE; decide)) (h.v0 (show ¬ hasV d.k by rw [HKV.out]; unfold hasV; decide)) (h.t0 (by rw [HKV.out]; decide))⟩)
    have HB9 : Hid (Below w.heap.size w w9) := bl_trans (bl_alloc (Below.drew (bl_a _)) _) hb9
    clear hq9 hb9
    go_wp2_with fail
    go_ret
    exact Tells.of HE.out HB9.out

end Go.Proofs.Ytpgbhkkdbkecoaa

/- TreV5 -/
namespace Go.Proofs.Ytpgbhkkdbkecoaa
open Go.RowKit Go.Deep
set_option maxRecDepth 100000

set_option maxHeartbeats 8000000 in
theorem hasOwnA_5 (d : AN) (kid : Nat → AT) (w : World) (hkv : d.k = 5) (hl : (AT.mk d kid).lies 0 w) : Calls Try.prog 77 #[.agg #[.int .i64 d.k, .slice d.pa d.pn d.pc, .int .i64 d.e.d.k, .int .i64 d.e.d.op, .slice d.e.d.v.a d.e.d.v.len d.e.d.v.cap, .int .i64 d.e.d.t.t.k, .slice d.e.d.t.t.a d.e.d.t.t.len d.e.d.t.t.cap, .int .i64 d.e.d.t.t.n, .int .i64 d.e.d.t.t.s, .slice d.e.d.ka d.e.d.n d.e.d.kc, .slice d.v.a d.v.len d.v.cap, .slice d.ta d.tb.length d.tc, .slice d.ka d.n d.kc]] w (Tells (HasA d) w) := by
  obtain ⟨hp, hpl, hpn, he, hv, ht, htn, hn, _⟩ := hl
  have KC := fun W => algKidCount_any 5 W
  have e1 : pKids 5 = 1 := by decide
  rw [e1] at KC
  clear e1
  have HKE : Hid (kidsA d.k = 1) := (show _ = _ by rw [hkv]; decide)
  have HKV : Hid (d.k = 5) := hkv
  have HIB : Hid (∀ W, Below w.heap.size w W → Calls Try.prog 92 #[.agg #[.int .i64 5, .slice d.pa d.pn d.pc, .int .i64 0, .int .i64 0, .slice none 0 0, .int .i64 0, .slice none 0 0, .int .i64 0, .int .i64 0, .slice none 0 0, .slice d.v.a d.v.len d.v.cap, .slice d.ta d.tb.length d.tc, .slice d.ka d.n d.kc]] W (Tells (BareA ⟨5, d.pa, d.pc, d.pn, d.pat, ET0, d.v, d.ta, d.tc, d.tb, d.ka, d.kc, d.n⟩) W)) := fun W hb => isBareA_any ⟨5, d.pa, d.pc, d.pn, d.pat, ET0, d.v, d.ta, d.tc, d.tb, d.ka, d.kc, d.n⟩ W (ET0_lies W) (hv.upper (Upper.of_below hb))
  rw [hkv]
  clear hp hpl hpn he hv ht htn hkv
  go_enter Try.func77, Try.ntmps77
  go_upto_region 1 with fail
  obtain ⟨q0, hq0⟩ : ∃ q0, q0 = ((d.n : Int) != 1) := ⟨_, rfl⟩
  have HQ0 : Hid (q0 = ((d.n : Int) != 1)) := hq0
  refine wp_region_held_drew (S := fun w' => w' = ((w.alloc (.cells #[.int .i64 5, .slice d.pa d.pn d.pc, .int .i64 d.e.d.k, .int .i64 d.e.d.op, .slice d.e.d.v.a d.e.d.v.len d.e.d.v.cap, .int .i64 d.e.d.t.t.k, .slice d.e.d.t.t.a d.e.d.t.t.len d.e.d.t.t.cap, .int .i64 d.e.d.t.t.n, .int .i64 d.e.d.t.t.s, .slice d.e.d.ka d.e.d.n d.e.d.kc, .slice d.v.a d.v.len d.v.cap, .slice d.ta d.tb.length d.tc, .slice d.ka d.n d.kc] 43)).drew)) (by kernel_rfl) ?_ (fun hHeld => ?_)
  · rfl
  refine takeq (i := 0) 5 (v := ?v31) rfl rfl (by kernel_rfl) (by kernel_rfl) (by kernel_rfl) (fun _ _ _ h => h) (Or.inl ⟨by rfl, ?y31⟩) hHeld ?r31
  case y31 => (intro w' hSw; skip; go_simp; (try with_reducible rfl))
  try simp only [Act.put, List.setIfInBounds_toArray, List.set_cons_zero, List.set_cons_succ]
  refine takeq (i := 1) 6 (v := ?v32) rfl rfl (by kernel_rfl) (by kernel_rfl) (by kernel_rfl) (fun _ _ _ h => h) (Or.inl ⟨by rfl, ?y32⟩) hHeld ?r32
  case y32 => (intro w' hSw; subst hSw; go_simp; (try with_reducible rfl))
  try simp only [Act.put, List.setIfInBounds_toArray, List.set_cons_zero, List.set_cons_succ]
  refine takeq (i := 2) 7 (v := ?v33) rfl rfl (by kernel_rfl) (by kernel_rfl) (by kernel_rfl) (fun _ _ _ h => h) (Or.inl ⟨by rfl, ?y33⟩) hHeld ?r33
  case y33 => (intro w' hSw; skip; go_simp; (try with_reducible rfl))
  try simp only [Act.put, List.setIfInBounds_toArray, List.set_cons_zero, List.set_cons_succ]
  refine takeq (i := 3) 8 (v := ?v34) rfl rfl (by kernel_rfl) (by kernel_rfl) (by kernel_rfl) (fun _ _ _ h => h) (Or.inl ⟨by rfl, ?y34⟩) hHeld ?r34
  case y34 => (intro w' hSw; skip; go_simp; (try with_reducible rfl))
  try simp only [Act.put, List.setIfInBounds_toArray, List.set_cons_zero, List.set_cons_succ]
  refine takeq (i := 4) 9 (v := ?v35) rfl rfl (by kernel_rfl) (by kernel_rfl) (by kernel_rfl) (fun _ _ _ h => h) (Or.inl ⟨by rfl, ?y35⟩) hHeld ?r35
  case y35 => (intro w' hSw; subst hSw; go_simp; (try with_reducible rfl))
  try simp only [Act.put, List.setIfInBounds_toArray, List.set_cons_zero, List.set_cons_succ]
  refine wpAnyH_ready (rs := [5]) (by kernel_rfl) (by simp) ?_
  refine AllReadyH.cons rfl (fun K hK => ?_) AllReadyH.nil
  go_simp
  refine (KC _).mono ?_
  rintro e z1 ⟨rfl, h1⟩
  subst z1
  go_wp2_with fail
  refine hK.out _ _ ?_ (fun hHeld => ?_)
  · rfl
  clear hK K
  try simp only [Act.put, List.setIfInBounds_toArray, List.set_cons_zero, List.set_cons_succ]
  refine takeq (i := 6) 11 (v := .bool q0) rfl rfl (by kernel_rfl) (by kernel_rfl) (by kernel_rfl) (fun _ _ _ h => h) (Or.inl ⟨by rfl, ?y36⟩) hHeld ?r36
  case y36 => (intro w' hSw; rw [hq0]; go_simp; (try with_reducible rfl))
  try simp only [Act.put, List.setIfInBounds_toArray, List.set_cons_zero, List.set_cons_succ]
  refine wpAnyH_done (by kernel_rfl) ?_ _
  clear hHeld KC hq0
  cases q0 with
  | true =>
    have HNO : Hid (¬ HasA d) := fun hh => by
      have h1 : (d.n : Int) ≠ 1 := bne_iff_ne.1 HQ0.out.symm
      have h2 := hh.n
      rw [HKE.out] at h2
      omega
    clear HQ0
    go_wp2_with fail
    go_ret
    exact Tells.no HNO.out (Below.drew (bl_a _))
  | false =>
    have HK : Hid (d.n = kidsA d.k) := (show _ = _ by
      have h1 : ¬ (d.n : Int) ≠ 1 := fun h => (by have h2 := bne_iff_ne.2 h; rw [← HQ0.out] at h2; cases h2)
      rw [HKE.out]
      omega)
    clear HQ0 HKE
    go_wp2_with fail
    refine (HIB.out _ (bl_alloc (Below.drew (bl_a _)) _)).mono ?_
    rintro e w9 ⟨q9, rfl, hq9, hb9⟩
    have HE : Hid (q9 = true ↔ HasA d) := (show (q9 = true ↔ HasA d) from hq9.trans ⟨fun h => ⟨by rw [HKV.out]; decide, by rw [HKV.out]; decide, HK.out, fun _ => (show d.pn = 0 from h.1), by rw [(show d.pn = 0 from h.1)]; decide, fun _ => (show d.tb = [] from h.2.2.2), by rw [(show d.tb = [] from h.2.2.2)]; decide, fun h2 => absurd (show hasE d.k by rw [HKV.out]; unfold hasE; decide) h2, fun h2 => absurd h2 (show ¬ hasV d.k by rw [HKV.out]; unfold hasV; decide), fun _ => h.2.2.1, fun i hi => by rw [(show d.pn = 0 from h.1)] at hi; exact absurd hi (Nat.not_lt_zero _), fun x hx => by rw [(show d.tb = [] from h.2.2.2)] at hx; cases hx⟩, fun h => BareA.mk (h.p0 (by rw [HKV.out]; decide)) ET0_zero (h.v0 (show ¬ hasV d.k by rw [HKV.out]; unfold hasV; decide)) (h.t0 (by rw [HKV.out]; decide))⟩)
    have HB9 : Hid (Below w.heap.size w w9) := bl_trans (bl_alloc (Below.drew (bl_a _)) _) hb9
    clear hq9 hb9
    go_wp2_with fail
    go_ret
    exact Tells.of HE.out HB9.out

end Go.Proofs.Ytpgbhkkdbkecoaa

/- TreV6 -/
namespace Go.Proofs.Ytpgbhkkdbkecoaa
open Go.RowKit Go.Deep
set_option maxRecDepth 100000

set_option maxHeartbeats 8000000 in
theorem hasOwnA_6 (d : AN) (kid : Nat → AT) (w : World) (hkv : d.k = 6) (hl : (AT.mk d kid).lies 0 w) : Calls Try.prog 77 #[.agg #[.int .i64 d.k, .slice d.pa d.pn d.pc, .int .i64 d.e.d.k, .int .i64 d.e.d.op, .slice d.e.d.v.a d.e.d.v.len d.e.d.v.cap, .int .i64 d.e.d.t.t.k, .slice d.e.d.t.t.a d.e.d.t.t.len d.e.d.t.t.cap, .int .i64 d.e.d.t.t.n, .int .i64 d.e.d.t.t.s, .slice d.e.d.ka d.e.d.n d.e.d.kc, .slice d.v.a d.v.len d.v.cap, .slice d.ta d.tb.length d.tc, .slice d.ka d.n d.kc]] w (Tells (HasA d) w) := by
  obtain ⟨hp, hpl, hpn, he, hv, ht, htn, hn, _⟩ := hl
  have KC := fun W => algKidCount_any 6 W
  have e1 : pKids 6 = 1 := by decide
  rw [e1] at KC
  clear e1
  have HKE : Hid (kidsA d.k = 1) := (show _ = _ by rw [hkv]; decide)
  have HKV : Hid (d.k = 6) := hkv
  have HIB : Hid (∀ W, Below w.heap.size w W → Calls Try.prog 92 #[.agg #[.int .i64 6, .slice d.pa d.pn d.pc, .int .i64 0, .int .i64 0, .slice none 0 0, .int .i64 0, .slice none 0 0, .int .i64 0, .int .i64 0, .slice none 0 0, .slice none 0 0, .slice d.ta d.tb.length d.tc, .slice d.ka d.n d.kc]] W (Tells (BareA ⟨6, d.pa, d.pc, d.pn, d.pat, ET0, ⟨none, 0, 0, []⟩, d.ta, d.tc, d.tb, d.ka, d.kc, d.n⟩) W)) := fun W hb => isBareA_any ⟨6, d.pa, d.pc, d.pn, d.pat, ET0, ⟨none, 0, 0, []⟩, d.ta, d.tc, d.tb, d.ka, d.kc, d.n⟩ W (ET0_lies W) (bs_nil W)
  have HIN : Hid (∀ W, Below w.heap.size w W → Calls Try.prog 86 #[.slice d.v.a d.v.len d.v.cap] W fun e w' => e = .returned (.bool (nameOk d.v.b)) ∧ w' = W) := fun W hb => isName_any d.v.a d.v.len d.v.cap d.v.b W (hv.upper (Upper.of_below hb)).1
  rw [hkv]
  clear hp hpl hpn he hv ht htn hkv
  go_enter Try.func77, Try.ntmps77
  go_upto_region 1 with fail
  obtain ⟨q0, hq0⟩ : ∃ q0, q0 = ((d.n : Int) != 1) := ⟨_, rfl⟩
  have HQ0 : Hid (q0 = ((d.n : Int) != 1)) := hq0
  refine wp_region_held_drew (S := fun w' => w' = ((w.alloc (.cells #[.int .i64 6, .slice d.pa d.pn d.pc, .int .i64 d.e.d.k, .int .i64 d.e.d.op, .slice d.e.d.v.a d.e.d.v.len d.e.d.v.cap, .int .i64 d.e.d.t.t.k, .slice d.e.d.t.t.a d.e.d.t.t.len d.e.d.t.t.cap, .int .i64 d.e.d.t.t.n, .int .i64 d.e.d.t.t.s, .slice d.e.d.ka d.e.d.n d.e.d.kc, .slice d.v.a d.v.len d.v.cap, .slice d.ta d.tb.length d.tc, .slice d.ka d.n d.kc] 43)).drew)) (by kernel_rfl) ?_ (fun hHeld => ?_)
  · rfl
  refine takeq (i := 0) 5 (v := ?v37) rfl rfl (by kernel_rfl) (by kernel_rfl) (by kernel_rfl) (fun _ _ _ h => h) (Or.inl ⟨by rfl, ?y37⟩) hHeld ?r37
  case y37 => (intro w' hSw; skip; go_simp; (try with_reducible rfl))
  try simp only [Act.put, List.setIfInBounds_toArray, List.set_cons_zero, List.set_cons_succ]
  refine takeq (i := 1) 6 (v := ?v38) rfl rfl (by kernel_rfl) (by kernel_rfl) (by kernel_rfl) (fun _ _ _ h => h) (Or.inl ⟨by rfl, ?y38⟩) hHeld ?r38
  case y38 => (intro w' hSw; subst hSw; go_simp; (try with_reducible rfl))
  try simp only [Act.put, List.setIfInBounds_toArray, List.set_cons_zero, List.set_cons_succ]
  refine takeq (i := 2) 7 (v := ?v39) rfl rfl (by kernel_rfl) (by kernel_rfl) (by kernel_rfl) (fun _ _ _ h => h) (Or.inl ⟨by rfl, ?y39⟩) hHeld ?r39
  case y39 => (intro w' hSw; skip; go_simp; (try with_reducible rfl))
  try simp only [Act.put, List.setIfInBounds_toArray, List.set_cons_zero, List.set_cons_succ]
  refine takeq (i := 3) 8 (v := ?v40) rfl rfl (by kernel_rfl) (by kernel_rfl) (by kernel_rfl) (fun _ _ _ h => h) (Or.inl ⟨by rfl, ?y40⟩) hHeld ?r40
  case y40 => (intro w' hSw; skip; go_simp; (try with_reducible rfl))
  try simp only [Act.put, List.setIfInBounds_toArray, List.set_cons_zero, List.set_cons_succ]
  refine takeq (i := 4) 9 (v := ?v41) rfl rfl (by kernel_rfl) (by kernel_rfl) (by kernel_rfl) (fun _ _ _ h => h) (Or.inl ⟨by rfl, ?y41⟩) hHeld ?r41
  case y41 => (intro w' hSw; subst hSw; go_simp; (try with_reducible rfl))
  try simp only [Act.put, List.setIfInBounds_toArray, List.set_cons_zero, List.set_cons_succ]
  refine wpAnyH_ready (rs := [5]) (by kernel_rfl) (by simp) ?_
  refine AllReadyH.cons rfl (fun K hK => ?_) AllReadyH.nil
  go_simp
  refine (KC _).mono ?_
  rintro e z1 ⟨rfl, h1⟩
  subst z1
  go_wp2_with fail
  refine hK.out _ _ ?_ (fun hHeld => ?_)
  · rfl
  clear hK K
  try simp only [Act.put, List.setIfInBounds_toArray, List.set_cons_zero, List.set_cons_succ]
  refine takeq (i := 6) 11 (v := .bool q0) rfl rfl (by kernel_rfl) (by kernel_rfl) (by kernel_rfl) (fun _ _ _ h => h) (Or.inl ⟨by rfl, ?y42⟩) hHeld ?r42
  case y42 => (intro w' hSw; rw [hq0]; go_simp; (try with_reducible rfl))
  try simp only [Act.put, List.setIfInBounds_toArray, List.set_cons_zero, List.set_cons_succ]
  refine wpAnyH_done (by kernel_rfl) ?_ _
  clear hHeld KC hq0
  cases q0 with
  | true =>
    have HNO : Hid (¬ HasA d) := fun hh => by
      have h1 : (d.n : Int) ≠ 1 := bne_iff_ne.1 HQ0.out.symm
      have h2 := hh.n
      rw [HKE.out] at h2
      omega
    clear HQ0
    go_wp2_with fail
    go_ret
    exact Tells.no HNO.out (Below.drew (bl_a _))
  | false =>
    have HK : Hid (d.n = kidsA d.k) := (show _ = _ by
      have h1 : ¬ (d.n : Int) ≠ 1 := fun h => (by have h2 := bne_iff_ne.2 h; rw [← HQ0.out] at h2; cases h2)
      rw [HKE.out]
      omega)
    clear HQ0 HKE
    have IN := HIN.out
    cases hnm : nameOk d.v.b with
    | false =>
      rw [hnm] at IN
      have HNO : Hid (¬ HasA d) := fun hh => by have h := hh.v1 (show hasV d.k by rw [HKV.out]; unfold hasV; decide); rw [hnm] at h; cases h
      clear hnm
      go_wp2_with fail
      refine (IN _ (bl_alloc (Below.drew (bl_a _)) _)).mono ?_
      rintro e w3 ⟨rfl, h3⟩
      subst w3
      clear IN
      go_wp2_with fail
      go_ret
      exact Tells.no HNO.out (bl_alloc (Below.drew (bl_a _)) _)
    | true =>
      rw [hnm] at IN
      have HNM : Hid (nameOk d.v.b = true) := hnm
      clear hnm
      go_wp2_with fail
      refine (IN _ (bl_alloc (Below.drew (bl_a _)) _)).mono ?_
      rintro e w3 ⟨rfl, h3⟩
      subst w3
      clear IN
      go_wp2_with fail
      refine (HIB.out _ (bl_alloc (Below.drew (bl_a _)) _)).mono ?_
      rintro e w9 ⟨q9, rfl, hq9, hb9⟩
      have HE : Hid (q9 = true ↔ HasA d) := (show (q9 = true ↔ HasA d) from hq9.trans ⟨fun h => ⟨by rw [HKV.out]; decide, by rw [HKV.out]; decide, HK.out, fun _ => (show d.pn = 0 from h.1), by rw [(show d.pn = 0 from h.1)]; decide, fun _ => (show d.tb = [] from h.2.2.2), by rw [(show d.tb = [] from h.2.2.2)]; decide, fun h2 => absurd (show hasE d.k by rw [HKV.out]; unfold hasE; decide) h2, fun _ => HNM.out, fun h2 => absurd (show hasV d.k by rw [HKV.out]; unfold hasV; decide) h2, fun i hi => by rw [(show d.pn = 0 from h.1)] at hi; exact absurd hi (Nat.not_lt_zero _), fun x hx => by rw [(show d.tb = [] from h.2.2.2)] at hx; cases hx⟩, fun h => BareA.mk (h.p0 (by rw [HKV.out]; decide)) ET0_zero rfl (h.t0 (by rw [HKV.out]; decide))⟩)
      have HB9 : Hid (Below w.heap.size w w9) := bl_trans (bl_alloc (Below.drew (bl_a _)) _) hb9
      clear hq9 hb9
      go_wp2_with fail
      go_ret
      exact Tells.of HE.out HB9.out

end Go.Proofs.Ytpgbhkkdbkecoaa
