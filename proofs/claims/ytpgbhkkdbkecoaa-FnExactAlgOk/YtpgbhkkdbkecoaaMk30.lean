/- Texts put together: TreV7 TreW TreX -/
import Derived.Test.YtpgbhkkdbkecoaaMk27
import Derived.Test.YtpgbhkkdbkecoaaMk28
import Derived.Test.YtpgbhkkdbkecoaaMk29
/- TreV7 -/
namespace Go.Proofs.Ytpgbhkkdbkecoaa
open Go.RowKit Go.Deep
set_option maxRecDepth 100000

set_option maxHeartbeats 8000000 in
theorem hasOwnA_7 (d : AN) (kid : Nat → AT) (w : World) (hkv : d.k = 7) (hl : (AT.mk d kid).lies 0 w) : Calls Try.prog 77 #[.agg #[.int .i64 d.k, .slice d.pa d.pn d.pc, .int .i64 d.e.d.k, .int .i64 d.e.d.op, .slice d.e.d.v.a d.e.d.v.len d.e.d.v.cap, .int .i64 d.e.d.t.t.k, .slice d.e.d.t.t.a d.e.d.t.t.len d.e.d.t.t.cap, .int .i64 d.e.d.t.t.n, .int .i64 d.e.d.t.t.s, .slice d.e.d.ka d.e.d.n d.e.d.kc, .slice d.v.a d.v.len d.v.cap, .slice d.ta d.tb.length d.tc, .slice d.ka d.n d.kc]] w (Tells (HasA d) w) := by
  obtain ⟨hp, hpl, hpn, he, hv, ht, htn, hn, _⟩ := hl
  have KC := fun W => algKidCount_any 7 W
  have e1 : pKids 7 = 0 := by decide
  rw [e1] at KC
  clear e1
  have HKE : Hid (kidsA d.k = 0) := (show _ = _ by rw [hkv]; decide)
  have HKV : Hid (d.k = 7) := hkv
  have HIB : Hid (∀ W, Below w.heap.size w W → Calls Try.prog 92 #[.agg #[.int .i64 7, .slice d.pa d.pn d.pc, .int .i64 d.e.d.k, .int .i64 d.e.d.op, .slice d.e.d.v.a d.e.d.v.len d.e.d.v.cap, .int .i64 d.e.d.t.t.k, .slice d.e.d.t.t.a d.e.d.t.t.len d.e.d.t.t.cap, .int .i64 d.e.d.t.t.n, .int .i64 d.e.d.t.t.s, .slice d.e.d.ka d.e.d.n d.e.d.kc, .slice none 0 0, .slice none 0 0, .slice d.ka d.n d.kc]] W (Tells (BareA ⟨7, d.pa, d.pc, d.pn, d.pat, d.e, ⟨none, 0, 0, []⟩, none, 0, [], d.ka, d.kc, d.n⟩) W)) := fun W hb => isBareA_any ⟨7, d.pa, d.pc, d.pn, d.pat, d.e, ⟨none, 0, 0, []⟩, none, 0, [], d.ka, d.kc, d.n⟩ W (ET.lies.upper (Upper.of_below hb) he) (bs_nil W)
  have HIN : Hid (∀ W, Below w.heap.size w W → Calls Try.prog 86 #[.slice d.v.a d.v.len d.v.cap] W fun e w' => e = .returned (.bool (nameOk d.v.b)) ∧ w' = W) := fun W hb => isName_any d.v.a d.v.len d.v.cap d.v.b W (hv.upper (Upper.of_below hb)).1
  have HVO : Hid (∀ W, Below w.heap.size w W → Calls Try.prog 87 #[.slice d.ta d.tb.length d.tc] W (Tells (d.tb.length ≤ 8 ∧ ∀ i, i < d.tb.length → (tbG d.tb i).td.ok = true) W)) := fun W hb => valuesOk_any d.ta d.tb.length d.tc (tbG d.tb) W htn (trow_krow (ht.upper (Upper.of_below hb))) (tb_lies (ht.upper (Upper.of_below hb)))
  rw [hkv]
  clear hp hpl hpn he hv ht htn hkv
  go_enter Try.func77, Try.ntmps77
  go_upto_region 1 with fail
  obtain ⟨q0, hq0⟩ : ∃ q0, q0 = ((d.n : Int) != 0) := ⟨_, rfl⟩
  have HQ0 : Hid (q0 = ((d.n : Int) != 0)) := hq0
  refine wp_region_held_drew (S := fun w' => w' = ((w.alloc (.cells #[.int .i64 7, .slice d.pa d.pn d.pc, .int .i64 d.e.d.k, .int .i64 d.e.d.op, .slice d.e.d.v.a d.e.d.v.len d.e.d.v.cap, .int .i64 d.e.d.t.t.k, .slice d.e.d.t.t.a d.e.d.t.t.len d.e.d.t.t.cap, .int .i64 d.e.d.t.t.n, .int .i64 d.e.d.t.t.s, .slice d.e.d.ka d.e.d.n d.e.d.kc, .slice d.v.a d.v.len d.v.cap, .slice d.ta d.tb.length d.tc, .slice d.ka d.n d.kc] 43)).drew)) (by kernel_rfl) ?_ (fun hHeld => ?_)
  · rfl
  refine takeq (i := 0) 5 (v := ?v43) rfl rfl (by kernel_rfl) (by kernel_rfl) (by kernel_rfl) (fun _ _ _ h => h) (Or.inl ⟨by rfl, ?y43⟩) hHeld ?r43
  case y43 => (intro w' hSw; skip; go_simp; (try with_reducible rfl))
  try simp only [Act.put, List.setIfInBounds_toArray, List.set_cons_zero, List.set_cons_succ]
  refine takeq (i := 1) 6 (v := ?v44) rfl rfl (by kernel_rfl) (by kernel_rfl) (by kernel_rfl) (fun _ _ _ h => h) (Or.inl ⟨by rfl, ?y44⟩) hHeld ?r44
  case y44 => (intro w' hSw; subst hSw; go_simp; (try with_reducible rfl))
  try simp only [Act.put, List.setIfInBounds_toArray, List.set_cons_zero, List.set_cons_succ]
  refine takeq (i := 2) 7 (v := ?v45) rfl rfl (by kernel_rfl) (by kernel_rfl) (by kernel_rfl) (fun _ _ _ h => h) (Or.inl ⟨by rfl, ?y45⟩) hHeld ?r45
  case y45 => (intro w' hSw; skip; go_simp; (try with_reducible rfl))
  try simp only [Act.put, List.setIfInBounds_toArray, List.set_cons_zero, List.set_cons_succ]
  refine takeq (i := 3) 8 (v := ?v46) rfl rfl (by kernel_rfl) (by kernel_rfl) (by kernel_rfl) (fun _ _ _ h => h) (Or.inl ⟨by rfl, ?y46⟩) hHeld ?r46
  case y46 => (intro w' hSw; skip; go_simp; (try with_reducible rfl))
  try simp only [Act.put, List.setIfInBounds_toArray, List.set_cons_zero, List.set_cons_succ]
  refine takeq (i := 4) 9 (v := ?v47) rfl rfl (by kernel_rfl) (by kernel_rfl) (by kernel_rfl) (fun _ _ _ h => h) (Or.inl ⟨by rfl, ?y47⟩) hHeld ?r47
  case y47 => (intro w' hSw; subst hSw; go_simp; (try with_reducible rfl))
  try simp only [Act.put, List.setIfInBounds_toArray, List.set_cons_zero, List.set_cons_succ]
  refine wpAnyH_ready (rs := [5]) (by kernel_rfl) (by simp) ?_
  refine AllReadyH.cons rfl (fun K hK => ?_) AllReadyH.nil
  go_simp
  refine (KC _).mono ?_
  rintro e z1 ⟨rfl, h1⟩
  subst z1
  go_wp2_with fail
  refine hK.out _ _ ?_ (fun hHeld => ?_)
  · rfl
  clear hK K
  try simp only [Act.put, List.setIfInBounds_toArray, List.set_cons_zero, List.set_cons_succ]
  refine takeq (i := 6) 11 (v := .bool q0) rfl rfl (by kernel_rfl) (by kernel_rfl) (by kernel_rfl) (fun _ _ _ h => h) (Or.inl ⟨by rfl, ?y48⟩) hHeld ?r48
  case y48 => (intro w' hSw; rw [hq0]; go_simp; (try with_reducible rfl))
  try simp only [Act.put, List.setIfInBounds_toArray, List.set_cons_zero, List.set_cons_succ]
  refine wpAnyH_done (by kernel_rfl) ?_ _
  clear hHeld KC hq0
  cases q0 with
  | true =>
    have HNO : Hid (¬ HasA d) := fun hh => by
      have h1 : (d.n : Int) ≠ 0 := bne_iff_ne.1 HQ0.out.symm
      have h2 := hh.n
      rw [HKE.out] at h2
      omega
    clear HQ0
    go_wp2_with fail
    go_ret
    exact Tells.no HNO.out (Below.drew (bl_a _))
  | false =>
    have HK : Hid (d.n = kidsA d.k) := (show _ = _ by
      have h1 : ¬ (d.n : Int) ≠ 0 := fun h => (by have h2 := bne_iff_ne.2 h; rw [← HQ0.out] at h2; cases h2)
      rw [HKE.out]
      omega)
    clear HQ0 HKE
    have IN := HIN.out
    cases hnm : nameOk d.v.b with
    | false =>
      rw [hnm] at IN
      have HNO : Hid (¬ HasA d) := fun hh => by have h := hh.v1 (show hasV d.k by rw [HKV.out]; unfold hasV; decide); rw [hnm] at h; cases h
      clear hnm
      go_wp2_with fail
      refine (IN _ (bl_alloc (Below.drew (bl_a _)) _)).mono ?_
      rintro e w3 ⟨rfl, h3⟩
      subst w3
      clear IN
      go_wp2_with fail
      go_ret
      exact Tells.no HNO.out (bl_alloc (Below.drew (bl_a _)) _)
    | true =>
      rw [hnm] at IN
      have HNM : Hid (nameOk d.v.b = true) := hnm
      clear hnm
      go_wp2_with fail
      refine (IN _ (bl_alloc (Below.drew (bl_a _)) _)).mono ?_
      rintro e w3 ⟨rfl, h3⟩
      subst w3
      clear IN
      go_wp2_with fail
      refine (HVO.out _ (bl_alloc (Below.drew (bl_a _)) _)).mono ?_
      rintro e w3 ⟨q3, rfl, hq3, hb3⟩
      have HB3 : Hid (Below w.heap.size w w3) := bl_trans (bl_alloc (Below.drew (bl_a _)) _) hb3
      have HO3 : Hid (OB w3 (w.heap.size + 1) [.int .i64 7, .slice d.pa d.pn d.pc, .int .i64 d.e.d.k, .int .i64 d.e.d.op, .slice d.e.d.v.a d.e.d.v.len d.e.d.v.cap, .int .i64 d.e.d.t.t.k, .slice d.e.d.t.t.a d.e.d.t.t.len d.e.d.t.t.cap, .int .i64 d.e.d.t.t.n, .int .i64 d.e.d.t.t.s, .slice d.e.d.ka d.e.d.n d.e.d.kc, .slice d.v.a d.v.len d.v.cap, .slice d.ta d.tb.length d.tc, .slice d.ka d.n d.kc]) := (show OB _ _ _ by have h := (OB.new ((w.alloc (.cells #[.int .i64 7, .slice d.pa d.pn d.pc, .int .i64 d.e.d.k, .int .i64 d.e.d.op, .slice d.e.d.v.a d.e.d.v.len d.e.d.v.cap, .int .i64 d.e.d.t.t.k, .slice d.e.d.t.t.a d.e.d.t.t.len d.e.d.t.t.cap, .int .i64 d.e.d.t.t.n, .int .i64 d.e.d.t.t.s, .slice d.e.d.ka d.e.d.n d.e.d.kc, .slice d.v.a d.v.len d.v.cap, .slice d.ta d.tb.length d.tc, .slice d.ka d.n d.kc] 43)).drew) #[.int .i64 7, .slice d.pa d.pn d.pc, .int .i64 d.e.d.k, .int .i64 d.e.d.op, .slice d.e.d.v.a d.e.d.v.len d.e.d.v.cap, .int .i64 d.e.d.t.t.k, .slice d.e.d.t.t.a d.e.d.t.t.len d.e.d.t.t.cap, .int .i64 d.e.d.t.t.n, .int .i64 d.e.d.t.t.s, .slice d.e.d.ka d.e.d.n d.e.d.kc, .slice d.v.a d.v.len d.v.cap, .slice d.ta d.tb.length d.tc, .slice d.ka d.n d.kc] 43).below hb3; simpa using h)
      clear hb3 HVO
      have s10 := (HO3.out.2 10 _ rfl).1
      have t10 := (HO3.out.2 10 _ rfl).2
      have s11 := (HO3.out.2 11 _ rfl).1
      have t11 := (HO3.out.2 11 _ rfl).2
      have HBf : Hid (Below w.heap.size w ((w3.setCell ⟨w.heap.size + 1, 10, none⟩ (.slice none 0 0)).setCell ⟨w.heap.size + 1, 11, none⟩ (.slice none 0 0))) := (HB3.out.setCell (p := ⟨w.heap.size + 1, 10, none⟩) (Nat.le_succ _) _).setCell (p := ⟨w.heap.size + 1, 11, none⟩) (Nat.le_succ _) _
      have HR4 : Hid (Box ((w3.setCell ⟨w.heap.size + 1, 10, none⟩ (.slice none 0 0)).setCell ⟨w.heap.size + 1, 11, none⟩ (.slice none 0 0)) (w.heap.size + 1) [.int .i64 7, .slice d.pa d.pn d.pc, .int .i64 d.e.d.k, .int .i64 d.e.d.op, .slice d.e.d.v.a d.e.d.v.len d.e.d.v.cap, .int .i64 d.e.d.t.t.k, .slice d.e.d.t.t.a d.e.d.t.t.len d.e.d.t.t.cap, .int .i64 d.e.d.t.t.n, .int .i64 d.e.d.t.t.s, .slice d.e.d.ka d.e.d.n d.e.d.kc, .slice none 0 0, .slice none 0 0, .slice d.ka d.n d.kc]) := (HO3.out.sets [.slice none 0 0, .slice none 0 0] 10).box
      go_upto_region 18 with fail
      generalize (w3.setCell ⟨w.heap.size + 1, 10, none⟩ (.slice none 0 0)).setCell ⟨w.heap.size + 1, 11, none⟩ (.slice none 0 0) = W4 at *
      clear s10 t10 s11 t11 HO3 HB3
      cases q3 with
      | false =>
        have HNO : Hid (¬ HasA d) := fun hh => by have h := hq3.2 ⟨hh.tn, tb_all.2 hh.tm⟩; cases h
        clear hq3
        go_wp2_with fail
        go_ret
        exact Tells.no HNO.out HBf.out
      | true =>
        have HTM : Hid (d.tb.length ≤ 8 ∧ ∀ i, i < d.tb.length → (tbG d.tb i).td.ok = true) := hq3.1 rfl
        clear hq3
        have u0 := HR4.out.2 0 _ rfl
        have u1 := HR4.out.2 1 _ rfl
        have u2 := HR4.out.2 2 _ rfl
        have u3 := HR4.out.2 3 _ rfl
        have u4 := HR4.out.2 4 _ rfl
        have u5 := HR4.out.2 5 _ rfl
        have u6 := HR4.out.2 6 _ rfl
        have u7 := HR4.out.2 7 _ rfl
        have u8 := HR4.out.2 8 _ rfl
        have u9 := HR4.out.2 9 _ rfl
        have u10 := HR4.out.2 10 _ rfl
        have u11 := HR4.out.2 11 _ rfl
        have u12 := HR4.out.2 12 _ rfl
        go_wp2_with fail
        refine (HIB.out _ HBf.out).mono ?_
        rintro e w9 ⟨q9, rfl, hq9, hb9⟩
        have HE : Hid (q9 = true ↔ HasA d) := (show (q9 = true ↔ HasA d) from hq9.trans ⟨fun h => ⟨by rw [HKV.out]; decide, by rw [HKV.out]; decide, HK.out, fun _ => (show d.pn = 0 from h.1), by rw [(show d.pn = 0 from h.1)]; decide, fun h2 => absurd HKV.out h2, HTM.out.1, fun _ => h.2.1, fun _ => HNM.out, fun h2 => absurd (show hasV d.k by rw [HKV.out]; unfold hasV; decide) h2, fun i hi => by rw [(show d.pn = 0 from h.1)] at hi; exact absurd hi (Nat.not_lt_zero _), tb_all.1 HTM.out.2⟩, fun h => BareA.mk (h.p0 (by rw [HKV.out]; decide)) (h.e0 (show ¬ hasE d.k by rw [HKV.out]; unfold hasE; decide)) rfl rfl⟩)
        have HB9 : Hid (Below w.heap.size w w9) := bl_trans HBf.out hb9
        clear hq9 hb9
        go_wp2_with fail
        go_ret
        exact Tells.of HE.out HB9.out

end Go.Proofs.Ytpgbhkkdbkecoaa

/- TreW -/
namespace Go.Proofs.Ytpgbhkkdbkecoaa
open Go.RowKit Go.Deep
set_option maxRecDepth 100000

set_option maxHeartbeats 8000000 in
theorem hasOwnA_x (d : AN) (w : World) (n0 : d.k ≠ 0) (n1 : d.k ≠ 1) (n2 : d.k ≠ 2) (n3 : d.k ≠ 3) (n4 : d.k ≠ 4) (n5 : d.k ≠ 5) (n6 : d.k ≠ 6) (n7 : d.k ≠ 7) : Calls Try.prog 77 #[.agg #[.int .i64 d.k, .slice d.pa d.pn d.pc, .int .i64 d.e.d.k, .int .i64 d.e.d.op, .slice d.e.d.v.a d.e.d.v.len d.e.d.v.cap, .int .i64 d.e.d.t.t.k, .slice d.e.d.t.t.a d.e.d.t.t.len d.e.d.t.t.cap, .int .i64 d.e.d.t.t.n, .int .i64 d.e.d.t.t.s, .slice d.e.d.ka d.e.d.n d.e.d.kc, .slice d.v.a d.v.len d.v.cap, .slice d.ta d.tb.length d.tc, .slice d.ka d.n d.kc]] w (Tells (HasA d) w) := by
  have KC := fun W => algKidCount_any d.k W
  have HNO : Hid (¬ HasA d) := fun hh => by have h1 := hh.k0; have h2 := hh.k7; omega
  have e1 : pKids d.k = 0 := by unfold pKids; rw [if_neg (by omega), if_neg (by omega)]
  rw [e1] at KC
  have m0 : (d.k == 0) = false := by simp [n0]
  have m1 : (d.k == 1) = false := by simp [n1]
  have m2 : (d.k == 2) = false := by simp [n2]
  have m3 : (d.k == 3) = false := by simp [n3]
  have m4 : (d.k == 4) = false := by simp [n4]
  have m5 : (d.k == 5) = false := by simp [n5]
  have m6 : (d.k == 6) = false := by simp [n6]
  have m7 : (d.k == 7) = false := by simp [n7]
  clear e1 n0 n1 n2 n3 n4 n5 n6 n7
  go_enter Try.func77, Try.ntmps77
  go_upto_region 1 with fail
  obtain ⟨q0, hq0⟩ : ∃ q0, q0 = ((d.n : Int) != 0) := ⟨_, rfl⟩
  refine wp_region_held_drew (S := fun w' => w' = ((w.alloc (.cells #[.int .i64 d.k, .slice d.pa d.pn d.pc, .int .i64 d.e.d.k, .int .i64 d.e.d.op, .slice d.e.d.v.a d.e.d.v.len d.e.d.v.cap, .int .i64 d.e.d.t.t.k, .slice d.e.d.t.t.a d.e.d.t.t.len d.e.d.t.t.cap, .int .i64 d.e.d.t.t.n, .int .i64 d.e.d.t.t.s, .slice d.e.d.ka d.e.d.n d.e.d.kc, .slice d.v.a d.v.len d.v.cap, .slice d.ta d.tb.length d.tc, .slice d.ka d.n d.kc] 43)).drew)) (by kernel_rfl) ?_ (fun hHeld => ?_)
  · rfl
  refine takeq (i := 0) 5 (v := ?v49) rfl rfl (by kernel_rfl) (by kernel_rfl) (by kernel_rfl) (fun _ _ _ h => h) (Or.inl ⟨by rfl, ?y49⟩) hHeld ?r49
  case y49 => (intro w' hSw; skip; go_simp; (try with_reducible rfl))
  try simp only [Act.put, List.setIfInBounds_toArray, List.set_cons_zero, List.set_cons_succ]
  refine takeq (i := 1) 6 (v := ?v50) rfl rfl (by kernel_rfl) (by kernel_rfl) (by kernel_rfl) (fun _ _ _ h => h) (Or.inl ⟨by rfl, ?y50⟩) hHeld ?r50
  case y50 => (intro w' hSw; subst hSw; go_simp; (try with_reducible rfl))
  try simp only [Act.put, List.setIfInBounds_toArray, List.set_cons_zero, List.set_cons_succ]
  refine takeq (i := 2) 7 (v := ?v51) rfl rfl (by kernel_rfl) (by kernel_rfl) (by kernel_rfl) (fun _ _ _ h => h) (Or.inl ⟨by rfl, ?y51⟩) hHeld ?r51
  case y51 => (intro w' hSw; skip; go_simp; (try with_reducible rfl))
  try simp only [Act.put, List.setIfInBounds_toArray, List.set_cons_zero, List.set_cons_succ]
  refine takeq (i := 3) 8 (v := ?v52) rfl rfl (by kernel_rfl) (by kernel_rfl) (by kernel_rfl) (fun _ _ _ h => h) (Or.inl ⟨by rfl, ?y52⟩) hHeld ?r52
  case y52 => (intro w' hSw; skip; go_simp; (try with_reducible rfl))
  try simp only [Act.put, List.setIfInBounds_toArray, List.set_cons_zero, List.set_cons_succ]
  refine takeq (i := 4) 9 (v := ?v53) rfl rfl (by kernel_rfl) (by kernel_rfl) (by kernel_rfl) (fun _ _ _ h => h) (Or.inl ⟨by rfl, ?y53⟩) hHeld ?r53
  case y53 => (intro w' hSw; subst hSw; go_simp; (try with_reducible rfl))
  try simp only [Act.put, List.setIfInBounds_toArray, List.set_cons_zero, List.set_cons_succ]
  refine wpAnyH_ready (rs := [5]) (by kernel_rfl) (by simp) ?_
  refine AllReadyH.cons rfl (fun K hK => ?_) AllReadyH.nil
  go_simp
  refine (KC _).mono ?_
  rintro e z1 ⟨rfl, h1⟩
  subst z1
  go_wp2_with fail
  refine hK.out _ _ ?_ (fun hHeld => ?_)
  · rfl
  clear hK K
  try simp only [Act.put, List.setIfInBounds_toArray, List.set_cons_zero, List.set_cons_succ]
  refine takeq (i := 6) 11 (v := .bool q0) rfl rfl (by kernel_rfl) (by kernel_rfl) (by kernel_rfl) (fun _ _ _ h => h) (Or.inl ⟨by rfl, ?y54⟩) hHeld ?r54
  case y54 => (intro w' hSw; rw [hq0]; go_simp; (try with_reducible rfl))
  try simp only [Act.put, List.setIfInBounds_toArray, List.set_cons_zero, List.set_cons_succ]
  refine wpAnyH_done (by kernel_rfl) ?_ _
  clear hHeld KC hq0
  cases q0 with
  | true =>
    go_wp2_with fail
    go_ret
    exact Tells.no HNO.out (Below.drew (bl_a _))
  | false =>
    go_wp2_with fail
    go_ret
    exact Tells.no HNO.out (bl_alloc (Below.drew (bl_a _)) _)
theorem hasOwnA_any (d : AN) (kid : Nat → AT) (w : World) (hl : (AT.mk d kid).lies 0 w) : Calls Try.prog 77 #[.agg #[.int .i64 d.k, .slice d.pa d.pn d.pc, .int .i64 d.e.d.k, .int .i64 d.e.d.op, .slice d.e.d.v.a d.e.d.v.len d.e.d.v.cap, .int .i64 d.e.d.t.t.k, .slice d.e.d.t.t.a d.e.d.t.t.len d.e.d.t.t.cap, .int .i64 d.e.d.t.t.n, .int .i64 d.e.d.t.t.s, .slice d.e.d.ka d.e.d.n d.e.d.kc, .slice d.v.a d.v.len d.v.cap, .slice d.ta d.tb.length d.tc, .slice d.ka d.n d.kc]] w (Tells (HasA d) w) := by
  by_cases n0 : d.k = 0
  · exact hasOwnA_0 d kid w n0 hl
  by_cases n1 : d.k = 1
  · exact hasOwnA_1 d kid w n1 hl
  by_cases n2 : d.k = 2
  · exact hasOwnA_2 d kid w n2 hl
  by_cases n3 : d.k = 3
  · exact hasOwnA_3 d kid w n3 hl
  by_cases n4 : d.k = 4
  · exact hasOwnA_4 d kid w n4 hl
  by_cases n5 : d.k = 5
  · exact hasOwnA_5 d kid w n5 hl
  by_cases n6 : d.k = 6
  · exact hasOwnA_6 d kid w n6 hl
  by_cases n7 : d.k = 7
  · exact hasOwnA_7 d kid w n7 hl
  exact hasOwnA_x d w n0 n1 n2 n3 n4 n5 n6 n7
end Go.Proofs.Ytpgbhkkdbkecoaa

/- TreX -/
namespace Go.Proofs.Ytpgbhkkdbkecoaa
open Go.RowKit Go.Deep
set_option maxRecDepth 100000

/-- A row that writing into g leaves alone. -/
def RowP (w : World) (g : Nat) (sz : Nat) (a : Option Addr) (n : Nat) (C : Nat → List Value) : Prop :=
  n = 0 ∨ ∃ b off, a = some ⟨b, off, none⟩ ∧ b < w.heap.size ∧ b ≠ g ∧ ∀ i, i < n → ∀ c u, (C i)[c]? = some u → w.cell? ⟨b, off + i * sz + c, none⟩ = some u
theorem RowP.of_krow {w0 w : World} {g sz : Nat} {a : Option Addr} {n : Nat} {C : Nat → List Value} (h : KRow 0 w0 sz a n C) (hb : Below w0.heap.size w0 w) (hg : w0.heap.size ≤ g) : RowP w g sz a n C := by
  rcases h with h | ⟨b, off, ha, _, hlt, hc⟩
  · exact .inl h
  · exact .inr ⟨b, off, ha, Nat.lt_of_lt_of_le hlt hb.size, by omega, fun i hi c u hu => (hb.cell (p := ⟨b, off + i * sz + c, none⟩) hlt).trans (hc i hi c u hu)⟩
set_option maxHeartbeats 8000000 in
theorem algsOk_any (a : Option Addr) (n cap : Nat) (f : Nat → AT) (ok : Nat → Prop) (sz : Nat → Nat) (p q L : Int) (g : Nat) (w0 w : World) (hR : RowP w g 13 a n (fun i => (f i).d.cells)) (hw : Below w0.heap.size w0 w) (hg : w0.heap.size ≤ g) (hc : Ctr w g L) (hn : n ≤ 1048576) (hL0 : 0 ≤ L) (hL1 : L ≤ 100000)
    (IH : ∀ i, i < n → ∀ (L' : Int) (W : World), Below w0.heap.size w0 W → Ctr W g L' → 0 ≤ L' → L' ≤ 100000 → Calls Try.prog 55 #[.pointer (some ⟨g, 0, none⟩), .agg #[.int .i64 p, .int .i64 q, .int .i64 (f i).d.k, .slice (f i).d.pa (f i).d.pn (f i).d.pc, .int .i64 (f i).d.e.d.k, .int .i64 (f i).d.e.d.op, .slice (f i).d.e.d.v.a (f i).d.e.d.v.len (f i).d.e.d.v.cap, .int .i64 (f i).d.e.d.t.t.k, .slice (f i).d.e.d.t.t.a (f i).d.e.d.t.t.len (f i).d.e.d.t.t.cap, .int .i64 (f i).d.e.d.t.t.n, .int .i64 (f i).d.e.d.t.t.s, .slice (f i).d.e.d.ka (f i).d.e.d.n (f i).d.e.d.kc, .slice (f i).d.v.a (f i).d.v.len (f i).d.v.cap, .slice (f i).d.ta (f i).d.tb.length (f i).d.tc, .slice (f i).d.ka (f i).d.n (f i).d.kc]] W (CtrAns (ok i) (sz i) g L' W)) :
    Calls Try.prog 27 #[.pointer (some ⟨g, 0, none⟩), .agg #[.int .i64 p, .int .i64 q], .slice a n cap] w (CtrAns (∀ i, i < n → ok i) (sumN n sz) g L w) := by
  have hgw : g < w.heap.size := hc.lt
  have hsz : w0.heap.size ≤ w.heap.size := hw.size
  have HIH : Hid (∀ i, i < n → ∀ (L' : Int) (W : World), Below w0.heap.size w0 W → Ctr W g L' → 0 ≤ L' → L' ≤ 100000 → Calls Try.prog 55 #[.pointer (some ⟨g, 0, none⟩), .agg #[.int .i64 p, .int .i64 q, .int .i64 (f i).d.k, .slice (f i).d.pa (f i).d.pn (f i).d.pc, .int .i64 (f i).d.e.d.k, .int .i64 (f i).d.e.d.op, .slice (f i).d.e.d.v.a (f i).d.e.d.v.len (f i).d.e.d.v.cap, .int .i64 (f i).d.e.d.t.t.k, .slice (f i).d.e.d.t.t.a (f i).d.e.d.t.t.len (f i).d.e.d.t.t.cap, .int .i64 (f i).d.e.d.t.t.n, .int .i64 (f i).d.e.d.t.t.s, .slice (f i).d.e.d.ka (f i).d.e.d.n (f i).d.e.d.kc, .slice (f i).d.v.a (f i).d.v.len (f i).d.v.cap, .slice (f i).d.ta (f i).d.tb.length (f i).d.tc, .slice (f i).d.ka (f i).d.n (f i).d.kc]] W (CtrAns (ok i) (sz i) g L' W)) := IH
  have HC0 : Hid (CS w0 w (w.alloc (.cells #[.int .i64 p, .int .i64 q] 84)) g L [.int .i64 p, .int .i64 q]) := ⟨Box.new w #[.int .i64 p, .int .i64 q] 84 (0, 0), hc.below (bl_a _), Past.of_below (bl_a _), hw.trans ((bl_a _).mono hsz)⟩
  clear IH hw hc
  by_cases hn1 : n = 0
  · subst hn1
    clear hR
    go_enter Try.func27, Try.ntmps27
    go_wp2_with fail
    go_loopw [11] (fun i wr => i = .int .i64 0 ∧ Hid (CS w0 w wr g L [.int .i64 p, .int .i64 q])) (fun _ _ => 0)
    case atStart => exact ⟨rfl, HC0⟩
    case round =>
      obtain ⟨rfl, HCr⟩ := hrel
      go_wp2_with fail
      go_ret
      have h5 : sumN 0 sz = 0 := rfl
      exact CtrAns.yes (fun i hi => absurd hi (Nat.not_lt_zero _)) (by omega) (by omega) HCr.out.ct HCr.out.pa
  obtain ⟨b, off, rfl, hbk, hbg, hck⟩ := hR.resolve_left hn1
  have HCK : Hid (∀ i, i < n → ∀ c u, ((f i).d.cells)[c]? = some u → w.cell? ⟨b, off + i * 13 + c, none⟩ = some u) := hck
  clear hck hR hn1
  go_enter Try.func27, Try.ntmps27
  go_wp2_with fail
  go_loopw [11] (fun i wr => ∃ (k : Nat) (Lr : Int), k ≤ n ∧ i = .int .i64 k ∧ 0 ≤ Lr ∧ Lr ≤ 100000 ∧ Hid (Lr = L - (sumN k sz : Nat)) ∧ Hid (∀ j, j < k → ok j) ∧ Hid (CS w0 w wr g Lr [.int .i64 p, .int .i64 q])) (fun i _ => n - (intOf i).toNat)
  case atStart => exact ⟨0, L, Nat.zero_le _, rfl, hL0, hL1, (show L = L - ((0 : Nat) : Int) by omega), fun j hj => absurd hj (Nat.not_lt_zero _), HC0⟩
  case round =>
    clear HC0
    obtain ⟨k, Lr, hk, rfl, hLr0, hLr1, HLR, HOKS, HCr⟩ := hrel
    by_cases hlk : k < n
    rotate_left
    · obtain rfl : k = n := by omega
      have hlkz : ¬ (k : Int) < (k : Int) := by omega
      go_wp2_with fail
      go_ret
      have h4 := HLR.out
      exact CtrAns.yes HOKS.out (by omega) (by omega) HCr.out.ct HCr.out.pa
    have hlkz : (k : Int) < (n : Int) := by omega
    have hcx : wr.rangeAt b (off + k * 13) [.int .i64 (f k).d.k, .slice (f k).d.pa (f k).d.pn (f k).d.pc, .int .i64 (f k).d.e.d.k, .int .i64 (f k).d.e.d.op, .slice (f k).d.e.d.v.a (f k).d.e.d.v.len (f k).d.e.d.v.cap, .int .i64 (f k).d.e.d.t.t.k, .slice (f k).d.e.d.t.t.a (f k).d.e.d.t.t.len (f k).d.e.d.t.t.cap, .int .i64 (f k).d.e.d.t.t.n, .int .i64 (f k).d.e.d.t.t.s, .slice (f k).d.e.d.ka (f k).d.e.d.n (f k).d.e.d.kc, .slice (f k).d.v.a (f k).d.v.len (f k).d.v.cap, .slice (f k).d.ta (f k).d.tb.length (f k).d.tc, .slice (f k).d.ka (f k).d.n (f k).d.kc] := fun c u hu => (World.cell?_of_block (w := w) (a := ⟨b, off + k * 13 + c, none⟩) (HCr.out.pa.block b hbk hbg)).trans (HCK.out k hlk c u hu)
    have x0 := fun o => ((bl_a (w := wr) o).cell (p := ⟨w.heap.size, 0, none⟩) HCr.out.bx.1).trans (HCr.out.bx.2 0 _ rfl)
    have x1 := fun o => ((bl_a (w := wr) o).cell (p := ⟨w.heap.size, 1, none⟩) HCr.out.bx.1).trans (HCr.out.bx.2 1 _ rfl)
    go_wp2_with (with_reducible refine wpl_at ?_; refine wpList_load_mid rfl 43 _ rfl _ _ rfl [.int .i64 (f k).d.k, .slice (f k).d.pa (f k).d.pn (f k).d.pc, .int .i64 (f k).d.e.d.k, .int .i64 (f k).d.e.d.op, .slice (f k).d.e.d.v.a (f k).d.e.d.v.len (f k).d.e.d.v.cap, .int .i64 (f k).d.e.d.t.t.k, .slice (f k).d.e.d.t.t.a (f k).d.e.d.t.t.len (f k).d.e.d.t.t.cap, .int .i64 (f k).d.e.d.t.t.n, .int .i64 (f k).d.e.d.t.t.s, .slice (f k).d.e.d.ka (f k).d.e.d.n (f k).d.e.d.kc, .slice (f k).d.v.a (f k).d.v.len (f k).d.v.cap, .slice (f k).d.ta (f k).d.tb.length (f k).d.tc, .slice (f k).d.ka (f k).d.n (f k).d.kc] _ hcx Try.underlying43 rfl (by kernel_rfl) ?_; try simp only [Act.put, List.setIfInBounds_toArray, List.set_cons_zero, List.set_cons_succ])
    refine (HIH.out k hlk Lr _ (HCr.out.bl.trans ((bl_a _).mono HCr.out.bl.size)) (HCr.out.ct.below (bl_a _)) hLr0 hLr1).mono ?_
    rintro e w5 ⟨q5, L5, rfl, hq5, hL5, hc5, hp5⟩
    have HC5 : Hid (CS w0 w w5 g L5 [.int .i64 p, .int .i64 q]) := (HCr.out.below HCr.out.bl.size (bl_a _)).past hg hgw hp5 hc5
    have HS : Hid (sumN (k + 1) sz = sumN k sz + sz k) := rfl
    clear hcx x0 x1 hc5 hp5 HCr
    cases q5 with
    | false =>
      have HNO : Hid (¬ ((∀ i, i < n → ok i) ∧ ((sumN n sz : Nat) : Int) ≤ L)) := fun hh => by
        have h1 := hh.1 k hlk
        have h3 := sumN_mono (f := sz) (show k + 1 ≤ n by omega)
        have h4 := HLR.out
        have h5 := HS.out
        have h6 := hh.2
        have h7 := hq5.2 ⟨h1, by omega⟩
        cases h7
      clear hq5 hL5
      go_wp2_with fail
      go_ret
      exact CtrAns.no HNO.out HC5.out.ct HC5.out.pa
    | true =>
      obtain ⟨h51, h52⟩ := hq5.1 rfl
      have h53 := hL5 rfl
      have HN5 : Hid (ok k) := h51
      have HL5 : Hid (L5 = L - (sumN (k + 1) sz : Nat)) := (show L5 = _ by have h1 := HS.out; have h2 := HLR.out; omega)
      have hL50 : 0 ≤ L5 := by omega
      have hL51 : L5 ≤ 100000 := by omega
      clear h51 h52 h53 hq5 hL5
      go_wp2_with fail
      go_roundw
      case rel =>
        refine ⟨k + 1, L5, by omega, by go_num, hL50, hL51, HL5, fun j hj => ?_, HC5⟩
        by_cases e : j = k
        · subst e
          exact HN5.out
        · exact HOKS.out j (by omega)
      case measure => simp [intOf]; omega
end Go.Proofs.Ytpgbhkkdbkecoaa
