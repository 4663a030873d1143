import Derived.Test.YtoloadogihbdeaaGreatMk14
namespace Go.Proofs.YtoloadogihbdeaaGreat
open Go.RowKit Go.Deep
set_option maxHeartbeats 40000000
set_option maxRecDepth 100000
theorem hasOwnE_1 (d : EN) (w : World) (hkv : d.k = 1) (hv : BsF 0 w d.v) (ht : BsF 0 w d.t.sl) (hf : d.t.t.fits) (hn : d.n ≤ 1048576) : Calls Tryz.prog 155 #[.agg d.ar] w (Tells (nodeOk d) w) := by
 try unfold EN.ar
 have KC := fun W => kidCount_any 1 W
 have e1 : kLo 1 = 0 := by decide
 have e2 : kHi 1 = 0 := by decide
 rw [e1, e2] at KC
 clear e1 e2
 have WI := fun W => within_any (d.n : Int) 0 0 W
 have HIB : Hd (∀ W, Bl w W → Cl 175 #[.agg #[.int .i64 1, .int .i64 d.op, .slice d.v.a d.v.len d.v.cap, .int .i64 0, .slice none 0 0, .int .i64 0, .int .i64 0, .slice d.ka d.n d.kc]] W (Tells (BareN ⟨1, d.op, d.v, ⟨⟨0, none, 0, 0, 0, 0⟩, []⟩, d.ka, d.kc, d.n⟩) W)) := fun W hb => isBare_any _ W (hv.upper (uB hb)) (bs_nil W)
 have HKO : Hd (kOk d.k d.n ↔ ((0 : Int) ≤ (d.n : Int) ∧ (d.n : Int) ≤ 0)) := (show (_ ↔ _) by rw [hkv]; unfold kOk; omega)
 have HKV := iH hkv
 have HTO := iH (fun W (hb : Bl w W) => implTermOk_any d.t.t.k d.t.t.n d.t.t.s d.t.t.a d.t.t.len d.t.t.cap d.t.b W (ht.upper (uB hb)).1 hf.1 hf.2.1 hf.2.2.1 hf.2.2.2)
 rw [hkv]
 clear hv ht hf hkv
 go_in
 go_wp2_with fail
 refine (KC _).mono ?_
 rintro e w1 ⟨rfl, rfl⟩
 clear KC
 go_wp2_with fail
 refine (WI _).mono ?_
 rintro e w1 ⟨rfl, rfl⟩
 clear WI
 by_cases hkn : (0 : Int) ≤ (d.n : Int) ∧ (d.n : Int) ≤ 0
 rotate_left
 · have hw2 : (decide ((0 : Int) ≤ (d.n : Int)) && decide ((d.n : Int) ≤ 0)) = false := by simp; omega
   have HNO : Hd (¬ nodeOk d) := fun hh => hkn (HKO.o.1 hh.1)
   rw [hw2]
   clear hkn hw2
   go_wp2
   go_ret
   exact Tells.no HNO.o (bl_a _)
 have hw2 : (decide ((0 : Int) ≤ (d.n : Int)) && decide ((d.n : Int) ≤ 0)) = true := by simp; omega
 have HK := iH (HKO.o.2 hkn)
 rw [hw2]
 clear hkn hw2 HKO
 have TO := HTO.o
 cases hnm : termOk d.t.t.k d.t.b d.t.t.n d.t.t.s with
 | false =>
  rw [hnm] at TO
  have HNO : Hd (¬ nodeOk d) := fun hh => by have h := hh.2.2.2.1 HKV.o; have h2 : termOk d.t.t.k d.t.b d.t.t.n d.t.t.s = true := h; rw [hnm] at h2; cases h2
  clear hnm
  go_wp2_with fail
  refine (TO _ (bl_alloc (bl_a _) _)).mono ?_
  rintro e w3 ⟨rfl, hb3⟩
  have HB3 := iH (bl_trans (bl_alloc (bl_a _) _) hb3)
  have r3 := show OB _ _ _ by have h := (OB.new _ _ 42).below hb3; simpa using h
  have HBf : Hd (Bl w (w3.setCells (w.heap.size + 1) 3 [.int .i64 0, .slice none 0 0, .int .i64 0, .int .i64 0])) := below_sets _ (Nat.le_succ _) _ _ _ HB3.o
  have st0 := r3.there 3 4 (by simp)
  have one1 := all_oneCell_toArray (cs := [.int .i64 0, .slice none 0 0, .int .i64 0, .int .i64 0]) (by simp [Value.oneCell'])
  clear TO hb3 r3
  go_upto_region 18 with (with_reducible refine wpl_at ?_; refine wpList_store_mid rfl 35 _ _ rfl _ _ _ rfl rfl st0 (by kernel_rfl) one1 ?_; try simp only [Act.put])
  generalize w3.setCells (w.heap.size + 1) 3 [.int .i64 0, .slice none 0 0, .int .i64 0, .int .i64 0] = W4 at *
  clear st0 one1
  go_wp2
  go_ret
  exact Tells.no HNO.o HBf.o
 | true =>
  rw [hnm] at TO
  have HNM : Hd (d.t.td.ok = true) := hnm
  clear hnm
  go_wp2_with fail
  refine (TO _ (bl_alloc (bl_a _) _)).mono ?_
  rintro e w3 ⟨rfl, hb3⟩
  have HB3 := iH (bl_trans (bl_alloc (bl_a _) _) hb3)
  have r3 := show OB _ _ _ by have h := (OB.new _ _ 42).below hb3; simpa using h
  have HBf : Hd (Bl w (w3.setCells (w.heap.size + 1) 3 [.int .i64 0, .slice none 0 0, .int .i64 0, .int .i64 0])) := below_sets _ (Nat.le_succ _) _ _ _ HB3.o
  have HR4 : Hd (Box (w3.setCells (w.heap.size + 1) 3 [.int .i64 0, .slice none 0 0, .int .i64 0, .int .i64 0]) (w.heap.size + 1) [.int .i64 1, .int .i64 d.op, .slice d.v.a d.v.len d.v.cap, .int .i64 0, .slice none 0 0, .int .i64 0, .int .i64 0, .slice d.ka d.n d.kc]) := (r3.sets _ 3).box
  have st0 := r3.there 3 4 (by simp)
  have one1 := all_oneCell_toArray (cs := [.int .i64 0, .slice none 0 0, .int .i64 0, .int .i64 0]) (by simp [Value.oneCell'])
  clear TO hb3 r3
  go_upto_region 18 with (with_reducible refine wpl_at ?_; refine wpList_store_mid rfl 35 _ _ rfl _ _ _ rfl rfl st0 (by kernel_rfl) one1 ?_; try simp only [Act.put])
  generalize w3.setCells (w.heap.size + 1) 3 [.int .i64 0, .slice none 0 0, .int .i64 0, .int .i64 0] = W4 at *
  clear st0 one1
  have s0 := HR4.o.2 0 _ rfl
  have s1 := HR4.o.2 1 _ rfl
  have s2 := HR4.o.2 2 _ rfl
  have s3 := HR4.o.2 3 _ rfl
  have s4 := HR4.o.2 4 _ rfl
  have s5 := HR4.o.2 5 _ rfl
  have s6 := HR4.o.2 6 _ rfl
  have s7 := HR4.o.2 7 _ rfl
  go_wp2_with fail
  refine (HIB.o _ HBf.o).mono ?_
  rintro e w9 ⟨q9, rfl, hq9, hb9⟩
  have HE := iH (show (q9 = true ↔ nodeOk d) from hq9.trans ⟨fun h => ⟨HK.o, fun h2 => absurd h2 (by rw [HKV.o]; decide), fun _ => h.2.1, fun _ => HNM.o, fun h2 => absurd HKV.o h2, ⟨by rw [h.1]; decide, by rw [h.1]; decide⟩, fun _ => h.1⟩, fun h => BareN.mk (h.2.2.2.2.2.2 (by rw [HKV.o]; decide)) (h.2.2.1 (by rw [HKV.o]; decide)) zeroT0⟩)
  have HB9 := iH (bl_trans HBf.o hb9)
  clear hq9 hb9
  go_wp2
  go_ret
  exact Tells.of HE.o HB9.o
theorem hasOwnE_2 (d : EN) (w : World) (hkv : d.k = 2) (hv : BsF 0 w d.v) (ht : BsF 0 w d.t.sl) (_hf : d.t.t.fits) (hn : d.n ≤ 1048576) : Calls Tryz.prog 155 #[.agg d.ar] w (Tells (nodeOk d) w) := by
 try unfold EN.ar
 have KC := fun W => kidCount_any 2 W
 have e1 : kLo 2 = 2 := by decide
 have e2 : kHi 2 = 2 := by decide
 rw [e1, e2] at KC
 clear e1 e2
 have WI := fun W => within_any (d.n : Int) 2 2 W
 have HIB : Hd (∀ W, Bl w W → Cl 175 #[.agg (eA 2 0 d.v d.t (.slice d.ka d.n d.kc))] W (Tells (BareN ⟨2, 0, d.v, d.t, d.ka, d.kc, d.n⟩) W)) := fun W hb => isBare_any _ W (hv.upper (uB hb)) (ht.upper (uB hb))
 have HKO : Hd (kOk d.k d.n ↔ ((2 : Int) ≤ (d.n : Int) ∧ (d.n : Int) ≤ 2)) := (show (_ ↔ _) by rw [hkv]; unfold kOk; omega)
 have HKV := iH hkv
 have WO := fun W => within_any d.op 0 7 W
 rw [hkv]
 clear hv ht hkv
 go_in
 go_wp2_with fail
 refine (KC _).mono ?_
 rintro e w1 ⟨rfl, rfl⟩
 clear KC
 go_wp2_with fail
 refine (WI _).mono ?_
 rintro e w1 ⟨rfl, rfl⟩
 clear WI
 by_cases hkn : (2 : Int) ≤ (d.n : Int) ∧ (d.n : Int) ≤ 2
 rotate_left
 · have hw2 : (decide ((2 : Int) ≤ (d.n : Int)) && decide ((d.n : Int) ≤ 2)) = false := by simp; omega
   have HNO : Hd (¬ nodeOk d) := fun hh => hkn (HKO.o.1 hh.1)
   rw [hw2]
   clear hkn hw2
   go_wp2
   go_ret
   exact Tells.no HNO.o (bl_a _)
 have hw2 : (decide ((2 : Int) ≤ (d.n : Int)) && decide ((d.n : Int) ≤ 2)) = true := by simp; omega
 have HK := iH (HKO.o.2 hkn)
 rw [hw2]
 clear hkn hw2 HKO
 by_cases ho : 0 ≤ d.op ∧ d.op ≤ 7
 rotate_left
 · have hw3 : (decide (0 ≤ d.op) && decide (d.op ≤ 7)) = false := by simp; omega
   have HNO : Hd (¬ nodeOk d) := fun hh => ho hh.2.2.2.2.2.1
   rw [hw3] at WO
   clear ho hw3
   go_wp2_with fail
   refine (WO _).mono ?_
   rintro e w3 ⟨rfl, rfl⟩
   clear WO
   go_wp2
   go_ret
   exact Tells.no HNO.o (bl_alloc (bl_a _) _)
 have hw3 : (decide (0 ≤ d.op) && decide (d.op ≤ 7)) = true := by simp; omega
 have HO := iH ho
 rw [hw3] at WO
 clear ho hw3
 go_wp2_with fail
 refine (WO _).mono ?_
 rintro e w3 ⟨rfl, rfl⟩
 clear WO
 go_wp2_with fail
 refine (HIB.o _ (bl_alloc (bl_a _) _)).mono ?_
 rintro e w9 ⟨q9, rfl, hq9, hb9⟩
 have HE := iH (show (q9 = true ↔ nodeOk d) from hq9.trans ⟨fun h => ⟨HK.o, fun h2 => absurd h2 (by rw [HKV.o]; decide), fun _ => h.2.1, fun h2 => absurd h2 (by rw [HKV.o]; decide), fun _ => h.2.2, HO.o, fun h2 => absurd HKV.o h2⟩, fun h => BareN.mk rfl (h.2.2.1 (by rw [HKV.o]; decide)) (h.2.2.2.2.1 (by rw [HKV.o]; decide))⟩)
 have HB9 := iH (bl_trans (bl_alloc (bl_a _) _) hb9)
 clear hq9 hb9
 go_wp2
 go_ret
 exact Tells.of HE.o HB9.o
theorem hasOwnE_3 (d : EN) (w : World) (hkv : d.k = 3) (hv : BsF 0 w d.v) (ht : BsF 0 w d.t.sl) (_hf : d.t.t.fits) (hn : d.n ≤ 1048576) : Calls Tryz.prog 155 #[.agg d.ar] w (Tells (nodeOk d) w) := by
 try unfold EN.ar
 have KC := fun W => kidCount_any 3 W
 have e1 : kLo 3 = 1 := by decide
 have e2 : kHi 3 = 1 := by decide
 rw [e1, e2] at KC
 clear e1 e2
 have WI := fun W => within_any (d.n : Int) 1 1 W
 have HIB : Hd (∀ W, Bl w W → Cl 175 #[.agg (d.ca 3)] W (Tells (BareN ⟨3, d.op, d.v, d.t, d.ka, d.kc, d.n⟩) W)) := fun W hb => isBare_any _ W (hv.upper (uB hb)) (ht.upper (uB hb))
 have HKO : Hd (kOk d.k d.n ↔ ((1 : Int) ≤ (d.n : Int) ∧ (d.n : Int) ≤ 1)) := (show (_ ↔ _) by rw [hkv]; unfold kOk; omega)
 have HKV := iH hkv
 rw [hkv]
 clear hv ht hkv
 go_in
 go_wp2_with fail
 refine (KC _).mono ?_
 rintro e w1 ⟨rfl, rfl⟩
 clear KC
 go_wp2_with fail
 refine (WI _).mono ?_
 rintro e w1 ⟨rfl, rfl⟩
 clear WI
 by_cases hkn : (1 : Int) ≤ (d.n : Int) ∧ (d.n : Int) ≤ 1
 rotate_left
 · have hw2 : (decide ((1 : Int) ≤ (d.n : Int)) && decide ((d.n : Int) ≤ 1)) = false := by simp; omega
   have HNO : Hd (¬ nodeOk d) := fun hh => hkn (HKO.o.1 hh.1)
   rw [hw2]
   clear hkn hw2
   go_wp2
   go_ret
   exact Tells.no HNO.o (bl_a _)
 have hw2 : (decide ((1 : Int) ≤ (d.n : Int)) && decide ((d.n : Int) ≤ 1)) = true := by simp; omega
 have HK := iH (HKO.o.2 hkn)
 rw [hw2]
 clear hkn hw2 HKO
 go_wp2_with fail
 refine (HIB.o _ (bl_alloc (bl_a _) _)).mono ?_
 rintro e w9 ⟨q9, rfl, hq9, hb9⟩
 have HE := iH (show (q9 = true ↔ nodeOk d) from hq9.trans ⟨fun h => ⟨HK.o, fun h2 => absurd h2 (by rw [HKV.o]; decide), fun _ => h.2.1, fun h2 => absurd h2 (by rw [HKV.o]; decide), fun _ => h.2.2, ⟨by rw [h.1]; decide, by rw [h.1]; decide⟩, fun _ => h.1⟩, fun h => BareN.mk (h.2.2.2.2.2.2 (by rw [HKV.o]; decide)) (h.2.2.1 (by rw [HKV.o]; decide)) (h.2.2.2.2.1 (by rw [HKV.o]; decide))⟩)
 have HB9 := iH (bl_trans (bl_alloc (bl_a _) _) hb9)
 clear hq9 hb9
 go_wp2
 go_ret
 exact Tells.of HE.o HB9.o
theorem hasOwnE_4 (d : EN) (w : World) (hkv : d.k = 4) (hv : BsF 0 w d.v) (ht : BsF 0 w d.t.sl) (_hf : d.t.t.fits) (hn : d.n ≤ 1048576) : Calls Tryz.prog 155 #[.agg d.ar] w (Tells (nodeOk d) w) := by
 try unfold EN.ar
 have KC := fun W => kidCount_any 4 W
 have e1 : kLo 4 = 0 := by decide
 have e2 : kHi 4 = 0 := by decide
 rw [e1, e2] at KC
 clear e1 e2
 have WI := fun W => within_any (d.n : Int) 0 0 W
 have HIB : Hd (∀ W, Bl w W → Cl 175 #[.agg #[.int .i64 4, .int .i64 d.op, .slice none 0 0, .int .i64 d.t.t.k, .slice d.t.t.a d.t.t.len d.t.t.cap, .int .i64 d.t.t.n, .int .i64 d.t.t.s, .slice d.ka d.n d.kc]] W (Tells (BareN ⟨4, d.op, ⟨none, 0, 0, []⟩, d.t, d.ka, d.kc, d.n⟩) W)) := fun W hb => isBare_any _ W (bs_nil W) (ht.upper (uB hb))
 have HKO : Hd (kOk d.k d.n ↔ ((0 : Int) ≤ (d.n : Int) ∧ (d.n : Int) ≤ 0)) := (show (_ ↔ _) by rw [hkv]; unfold kOk; omega)
 have HKV := iH hkv
 have HIN := iH (fun W (hb : Bl w W) => isName_any d.v.a d.v.len d.v.cap d.v.b W (hv.upper (uB hb)).1)
 rw [hkv]
 clear hv ht hkv
 go_in
 go_wp2_with fail
 refine (KC _).mono ?_
 rintro e w1 ⟨rfl, rfl⟩
 clear KC
 go_wp2_with fail
 refine (WI _).mono ?_
 rintro e w1 ⟨rfl, rfl⟩
 clear WI
 by_cases hkn : (0 : Int) ≤ (d.n : Int) ∧ (d.n : Int) ≤ 0
 rotate_left
 · have hw2 : (decide ((0 : Int) ≤ (d.n : Int)) && decide ((d.n : Int) ≤ 0)) = false := by simp; omega
   have HNO : Hd (¬ nodeOk d) := fun hh => hkn (HKO.o.1 hh.1)
   rw [hw2]
   clear hkn hw2
   go_wp2
   go_ret
   exact Tells.no HNO.o (bl_a _)
 have hw2 : (decide ((0 : Int) ≤ (d.n : Int)) && decide ((d.n : Int) ≤ 0)) = true := by simp; omega
 have HK := iH (HKO.o.2 hkn)
 rw [hw2]
 clear hkn hw2 HKO
 have IN := HIN.o
 cases hnm : nameOk d.v.b with
 | false =>
  rw [hnm] at IN
  have HNO : Hd (¬ nodeOk d) := fun hh => by have h := hh.2.1 (by rw [HKV.o]; simp); rw [hnm] at h; cases h
  clear hnm
  go_wp2_with fail
  refine (IN _ (bl_alloc (bl_a _) _)).mono ?_
  rintro e w3 ⟨rfl, rfl⟩
  clear IN
  go_wp2
  go_ret
  exact Tells.no HNO.o (bl_alloc (bl_a _) _)
 | true =>
  rw [hnm] at IN
  have HNM := iH hnm
  clear hnm
  go_wp2_with fail
  refine (IN _ (bl_alloc (bl_a _) _)).mono ?_
  rintro e w3 ⟨rfl, rfl⟩
  clear IN
  go_wp2_with fail
  refine (HIB.o _ (bl_alloc (bl_a _) _)).mono ?_
  rintro e w9 ⟨q9, rfl, hq9, hb9⟩
  have HE := iH (show (q9 = true ↔ nodeOk d) from hq9.trans ⟨fun h => ⟨HK.o, fun _ => HNM.o, fun h2 => absurd (by rw [HKV.o]; simp) h2, fun h2 => absurd h2 (by rw [HKV.o]; decide), fun _ => h.2.2, ⟨by rw [h.1]; decide, by rw [h.1]; decide⟩, fun _ => h.1⟩, fun h => BareN.mk (h.2.2.2.2.2.2 (by rw [HKV.o]; decide)) rfl (h.2.2.2.2.1 (by rw [HKV.o]; decide))⟩)
  have HB9 := iH (bl_trans (bl_alloc (bl_a _) _) hb9)
  clear hq9 hb9
  go_wp2
  go_ret
  exact Tells.of HE.o HB9.o
theorem hasOwnE_5 (d : EN) (w : World) (hkv : d.k = 5) (hv : BsF 0 w d.v) (ht : BsF 0 w d.t.sl) (_hf : d.t.t.fits) (hn : d.n ≤ 1048576) : Calls Tryz.prog 155 #[.agg d.ar] w (Tells (nodeOk d) w) := by
 try unfold EN.ar
 have KC := fun W => kidCount_any 5 W
 have e1 : kLo 5 = 3 := by decide
 have e2 : kHi 5 = 3 := by decide
 rw [e1, e2] at KC
 clear e1 e2
 have WI := fun W => within_any (d.n : Int) 3 3 W
 have HIB : Hd (∀ W, Bl w W → Cl 175 #[.agg (d.ca 5)] W (Tells (BareN ⟨5, d.op, d.v, d.t, d.ka, d.kc, d.n⟩) W)) := fun W hb => isBare_any _ W (hv.upper (uB hb)) (ht.upper (uB hb))
 have HKO : Hd (kOk d.k d.n ↔ ((3 : Int) ≤ (d.n : Int) ∧ (d.n : Int) ≤ 3)) := (show (_ ↔ _) by rw [hkv]; unfold kOk; omega)
 have HKV := iH hkv
 rw [hkv]
 clear hv ht hkv
 go_in
 go_wp2_with fail
 refine (KC _).mono ?_
 rintro e w1 ⟨rfl, rfl⟩
 clear KC
 go_wp2_with fail
 refine (WI _).mono ?_
 rintro e w1 ⟨rfl, rfl⟩
 clear WI
 by_cases hkn : (3 : Int) ≤ (d.n : Int) ∧ (d.n : Int) ≤ 3
 rotate_left
 · have hw2 : (decide ((3 : Int) ≤ (d.n : Int)) && decide ((d.n : Int) ≤ 3)) = false := by simp; omega
   have HNO : Hd (¬ nodeOk d) := fun hh => hkn (HKO.o.1 hh.1)
   rw [hw2]
   clear hkn hw2
   go_wp2
   go_ret
   exact Tells.no HNO.o (bl_a _)
 have hw2 : (decide ((3 : Int) ≤ (d.n : Int)) && decide ((d.n : Int) ≤ 3)) = true := by simp; omega
 have HK := iH (HKO.o.2 hkn)
 rw [hw2]
 clear hkn hw2 HKO
 go_wp2_with fail
 refine (HIB.o _ (bl_alloc (bl_a _) _)).mono ?_
 rintro e w9 ⟨q9, rfl, hq9, hb9⟩
 have HE := iH (show (q9 = true ↔ nodeOk d) from hq9.trans ⟨fun h => ⟨HK.o, fun h2 => absurd h2 (by rw [HKV.o]; decide), fun _ => h.2.1, fun h2 => absurd h2 (by rw [HKV.o]; decide), fun _ => h.2.2, ⟨by rw [h.1]; decide, by rw [h.1]; decide⟩, fun _ => h.1⟩, fun h => BareN.mk (h.2.2.2.2.2.2 (by rw [HKV.o]; decide)) (h.2.2.1 (by rw [HKV.o]; decide)) (h.2.2.2.2.1 (by rw [HKV.o]; decide))⟩)
 have HB9 := iH (bl_trans (bl_alloc (bl_a _) _) hb9)
 clear hq9 hb9
 go_wp2
 go_ret
 exact Tells.of HE.o HB9.o
theorem hasOwnE_6 (d : EN) (w : World) (hkv : d.k = 6) (hv : BsF 0 w d.v) (ht : BsF 0 w d.t.sl) (_hf : d.t.t.fits) (hn : d.n ≤ 1048576) : Calls Tryz.prog 155 #[.agg d.ar] w (Tells (nodeOk d) w) := by
 try unfold EN.ar
 have KC := fun W => kidCount_any 6 W
 have e1 : kLo 6 = 1 := by decide
 have e2 : kHi 6 = 4 := by decide
 rw [e1, e2] at KC
 clear e1 e2
 have WI := fun W => within_any (d.n : Int) 1 4 W
 have HIB : Hd (∀ W, Bl w W → Cl 175 #[.agg (d.ca 6)] W (Tells (BareN ⟨6, d.op, d.v, d.t, d.ka, d.kc, d.n⟩) W)) := fun W hb => isBare_any _ W (hv.upper (uB hb)) (ht.upper (uB hb))
 have HKO : Hd (kOk d.k d.n ↔ ((1 : Int) ≤ (d.n : Int) ∧ (d.n : Int) ≤ 4)) := (show (_ ↔ _) by rw [hkv]; unfold kOk; omega)
 have HKV := iH hkv
 rw [hkv]
 clear hv ht hkv
 go_in
 go_wp2_with fail
 refine (KC _).mono ?_
 rintro e w1 ⟨rfl, rfl⟩
 clear KC
 go_wp2_with fail
 refine (WI _).mono ?_
 rintro e w1 ⟨rfl, rfl⟩
 clear WI
 by_cases hkn : (1 : Int) ≤ (d.n : Int) ∧ (d.n : Int) ≤ 4
 rotate_left
 · have hw2 : (decide ((1 : Int) ≤ (d.n : Int)) && decide ((d.n : Int) ≤ 4)) = false := by simp; omega
   have HNO : Hd (¬ nodeOk d) := fun hh => hkn (HKO.o.1 hh.1)
   rw [hw2]
   clear hkn hw2
   go_wp2
   go_ret
   exact Tells.no HNO.o (bl_a _)
 have hw2 : (decide ((1 : Int) ≤ (d.n : Int)) && decide ((d.n : Int) ≤ 4)) = true := by simp; omega
 have HK := iH (HKO.o.2 hkn)
 rw [hw2]
 clear hkn hw2 HKO
 go_wp2_with fail
 refine (HIB.o _ (bl_alloc (bl_a _) _)).mono ?_
 rintro e w9 ⟨q9, rfl, hq9, hb9⟩
 have HE := iH (show (q9 = true ↔ nodeOk d) from hq9.trans ⟨fun h => ⟨HK.o, fun h2 => absurd h2 (by rw [HKV.o]; decide), fun _ => h.2.1, fun h2 => absurd h2 (by rw [HKV.o]; decide), fun _ => h.2.2, ⟨by rw [h.1]; decide, by rw [h.1]; decide⟩, fun _ => h.1⟩, fun h => BareN.mk (h.2.2.2.2.2.2 (by rw [HKV.o]; decide)) (h.2.2.1 (by rw [HKV.o]; decide)) (h.2.2.2.2.1 (by rw [HKV.o]; decide))⟩)
 have HB9 := iH (bl_trans (bl_alloc (bl_a _) _) hb9)
 clear hq9 hb9
 go_wp2
 go_ret
 exact Tells.of HE.o HB9.o
theorem hasOwnE_7 (d : EN) (w : World) (hkv : d.k = 7) (hv : BsF 0 w d.v) (ht : BsF 0 w d.t.sl) (_hf : d.t.t.fits) (hn : d.n ≤ 1048576) : Calls Tryz.prog 155 #[.agg d.ar] w (Tells (nodeOk d) w) := by
 try unfold EN.ar
 have KC := fun W => kidCount_any 7 W
 have e1 : kLo 7 = 1 := by decide
 have e2 : kHi 7 = 1 := by decide
 rw [e1, e2] at KC
 clear e1 e2
 have WI := fun W => within_any (d.n : Int) 1 1 W
 have HIB : Hd (∀ W, Bl w W → Cl 175 #[.agg (d.ca 7)] W (Tells (BareN ⟨7, d.op, d.v, d.t, d.ka, d.kc, d.n⟩) W)) := fun W hb => isBare_any _ W (hv.upper (uB hb)) (ht.upper (uB hb))
 have HKO : Hd (kOk d.k d.n ↔ ((1 : Int) ≤ (d.n : Int) ∧ (d.n : Int) ≤ 1)) := (show (_ ↔ _) by rw [hkv]; unfold kOk; omega)
 have HKV := iH hkv
 rw [hkv]
 clear hv ht hkv
 go_in
 go_wp2_with fail
 refine (KC _).mono ?_
 rintro e w1 ⟨rfl, rfl⟩
 clear KC
 go_wp2_with fail
 refine (WI _).mono ?_
 rintro e w1 ⟨rfl, rfl⟩
 clear WI
 by_cases hkn : (1 : Int) ≤ (d.n : Int) ∧ (d.n : Int) ≤ 1
 rotate_left
 · have hw2 : (decide ((1 : Int) ≤ (d.n : Int)) && decide ((d.n : Int) ≤ 1)) = false := by simp; omega
   have HNO : Hd (¬ nodeOk d) := fun hh => hkn (HKO.o.1 hh.1)
   rw [hw2]
   clear hkn hw2
   go_wp2
   go_ret
   exact Tells.no HNO.o (bl_a _)
 have hw2 : (decide ((1 : Int) ≤ (d.n : Int)) && decide ((d.n : Int) ≤ 1)) = true := by simp; omega
 have HK := iH (HKO.o.2 hkn)
 rw [hw2]
 clear hkn hw2 HKO
 go_wp2_with fail
 refine (HIB.o _ (bl_alloc (bl_a _) _)).mono ?_
 rintro e w9 ⟨q9, rfl, hq9, hb9⟩
 have HE := iH (show (q9 = true ↔ nodeOk d) from hq9.trans ⟨fun h => ⟨HK.o, fun h2 => absurd h2 (by rw [HKV.o]; decide), fun _ => h.2.1, fun h2 => absurd h2 (by rw [HKV.o]; decide), fun _ => h.2.2, ⟨by rw [h.1]; decide, by rw [h.1]; decide⟩, fun _ => h.1⟩, fun h => BareN.mk (h.2.2.2.2.2.2 (by rw [HKV.o]; decide)) (h.2.2.1 (by rw [HKV.o]; decide)) (h.2.2.2.2.1 (by rw [HKV.o]; decide))⟩)
 have HB9 := iH (bl_trans (bl_alloc (bl_a _) _) hb9)
 clear hq9 hb9
 go_wp2
 go_ret
 exact Tells.of HE.o HB9.o
theorem hasOwnE_x (d : EN) (w : World) (n0 : d.k ≠ 0) (n1 : d.k ≠ 1) (n2 : d.k ≠ 2) (n3 : d.k ≠ 3) (n4 : d.k ≠ 4) (n5 : d.k ≠ 5) (n6 : d.k ≠ 6) (n7 : d.k ≠ 7) : Calls Tryz.prog 155 #[.agg d.ar] w (Tells (nodeOk d) w) := by
 have KC := fun W => kidCount_any d.k W
 have WI := fun W => within_any (d.n : Int) (kLo d.k) (kHi d.k) W
 have HNO : Hd (¬ nodeOk d) := fun hh => by have h := hh.1; unfold kOk at h; omega
 have m0 : (d.k == 0) = false := by simp [n0]
 have m1 : (d.k == 1) = false := by simp [n1]
 have m2 : (d.k == 2) = false := by simp [n2]
 have m3 : (d.k == 3) = false := by simp [n3]
 have m4 : (d.k == 4) = false := by simp [n4]
 have m5 : (d.k == 5) = false := by simp [n5]
 have m6 : (d.k == 6) = false := by simp [n6]
 have m7 : (d.k == 7) = false := by simp [n7]
 clear n0
 clear n1
 clear n2
 clear n3
 clear n4
 clear n5
 clear n6
 clear n7
 obtain ⟨lo, hlo⟩ : ∃ lo, lo = kLo d.k := ⟨_, rfl⟩
 obtain ⟨hi, hhi⟩ : ∃ hi, hi = kHi d.k := ⟨_, rfl⟩
 rw [← hlo, ← hhi] at KC WI
 clear hlo hhi
 obtain ⟨q, hq⟩ : ∃ q, q = (decide (lo ≤ (d.n : Int)) && decide ((d.n : Int) ≤ hi)) := ⟨_, rfl⟩
 rw [← hq] at WI
 clear hq
 go_in
 go_wp2_with fail
 refine (KC _).mono ?_
 rintro e w1 ⟨rfl, rfl⟩
 clear KC
 go_wp2_with fail
 refine (WI _).mono ?_
 rintro e w1 ⟨rfl, rfl⟩
 clear WI
 cases q
 · go_wp2
   go_ret
   exact Tells.no HNO.o (bl_a _)
 go_wp2
 go_ret
 exact Tells.no HNO.o (bl_alloc (bl_a _) _)
theorem hasOwnE_any (d : EN) (w : World) (hv : BsF 0 w d.v) (ht : BsF 0 w d.t.sl) (hf : d.t.t.fits) (hn : d.n ≤ 1048576) : Calls Tryz.prog 155 #[.agg d.ar] w (Tells (nodeOk d) w) := by
 by_cases n0 : d.k = 0
 · exact hasOwnE_0 d w n0 hv ht hf hn
 by_cases n1 : d.k = 1
 · exact hasOwnE_1 d w n1 hv ht hf hn
 by_cases n2 : d.k = 2
 · exact hasOwnE_2 d w n2 hv ht hf hn
 by_cases n3 : d.k = 3
 · exact hasOwnE_3 d w n3 hv ht hf hn
 by_cases n4 : d.k = 4
 · exact hasOwnE_4 d w n4 hv ht hf hn
 by_cases n5 : d.k = 5
 · exact hasOwnE_5 d w n5 hv ht hf hn
 by_cases n6 : d.k = 6
 · exact hasOwnE_6 d w n6 hv ht hf hn
 by_cases n7 : d.k = 7
 · exact hasOwnE_7 d w n7 hv ht hf hn
 exact hasOwnE_x d w n0 n1 n2 n3 n4 n5 n6 n7
theorem exprOk_any (e : ET) : ∀ (p q L : Int) (g : Nat) (w0 w : World), e.lies 0 w0 → Bl w0 w → w0.heap.size ≤ g → Ctr w g L → 0 ≤ p → p ≤ 100000 → q ≤ 1000 → 0 ≤ L → L ≤ 100000 →
 Calls Tryz.prog 127 #[.pointer (some ⟨g, 0, none⟩), .agg #[.int .i64 p, .int .i64 q, .int .i64 e.d.k, .int .i64 e.d.op, .slice e.d.v.a e.d.v.len e.d.v.cap, .int .i64 e.d.t.t.k, .slice e.d.t.t.a e.d.t.t.len e.d.t.t.cap, .int .i64 e.d.t.t.n, .int .i64 e.d.t.t.s, .slice e.d.ka e.d.n e.d.kc]] w (CtrAns (eOk q e p) (esz e) g L w) := by
 induction e with
 | nil => exact fun _ _ _ _ _ _ h => False.elim h
 | mk d kid ih =>
  intro p q L g w0 w hl hw hg hc hp0 hp1 hq1 hL0 hL1
  show Calls Tryz.prog 127 #[.pointer (some ⟨g, 0, none⟩), .agg #[.int .i64 p, .int .i64 q, .int .i64 d.k, .int .i64 d.op, .slice d.v.a d.v.len d.v.cap, .int .i64 d.t.t.k, .slice d.t.t.a d.t.t.len d.t.t.cap, .int .i64 d.t.t.n, .int .i64 d.t.t.s, .slice d.ka d.n d.kc]] w (CtrAns (eOk q (.mk d kid) p) (esz (.mk d kid)) g L w)
  obtain ⟨hv, ht, hf, hn, hR, hk⟩ := hl
  have hgw := hc.lt
  have hsz := hw.size
  have HOWN := iH (fun W (hb : Bl w0 W) => hasOwnE_any d W (hv.upper (uB hb)) (ht.upper (uB hb)) hf hn)
  have HIH := iH (fun i (hi : i < d.n) (L' : Int) (W : World) (hb : Bl w0 W) (hc' : Ctr W g L') (h0 : 0 ≤ L') (h1 : L' ≤ 100000) (h10 : p ≤ q) => ih i (p + 1) q L' g w0 W (hk i hi) hb hg hc' (by omega) (by omega) hq1 h0 h1)
  have HKR := iH hR
  have HCS : Hd (CS w0 w (w.alloc (.cells #[.int .i64 p, .int .i64 q, .int .i64 d.k, .int .i64 d.op, .slice d.v.a d.v.len d.v.cap, .int .i64 d.t.t.k, .slice d.t.t.a d.t.t.len d.t.t.cap, .int .i64 d.t.t.n, .int .i64 d.t.t.s, .slice d.ka d.n d.kc] 182)) g L [.int .i64 p, .int .i64 q, .int .i64 d.k, .int .i64 d.op, .slice d.v.a d.v.len d.v.cap, .int .i64 d.t.t.k, .slice d.t.t.a d.t.t.len d.t.t.cap, .int .i64 d.t.t.n, .int .i64 d.t.t.s, .slice d.ka d.n d.kc]) := ⟨Box.new w #[.int .i64 p, .int .i64 q, .int .i64 d.k, .int .i64 d.op, .slice d.v.a d.v.len d.v.cap, .int .i64 d.t.t.k, .slice d.t.t.a d.t.t.len d.t.t.cap, .int .i64 d.t.t.n, .int .i64 d.t.t.s, .slice d.ka d.n d.kc] 182 (0, 0), hc.below (bl_a _), Past.of_below (bl_a _), hw.trans ((bl_a _).mono hsz)⟩
  have AD := admits_any g L p q _ HCS.o.ct hL0 hL1
  have HSZ : Hd (esz (.mk d kid) = 1 + sumN d.n (fun i => esz (kid i))) := rfl
  clear hv ht hf hR hk ih hw hc
  go_in
  go_wp2_with fail
  refine AD.mono ?_
  rintro e w1 ⟨q1, rfl, hq1', hc1, hp1'⟩
  have HC1 := iH (HCS.o.past hg hgw hp1' hc1)
  clear AD hc1 hp1' HCS
  cases q1
  · have HNO : Hd (¬ (eOk q (.mk d kid) p ∧ ((esz (.mk d kid) : Nat) : Int) ≤ L)) := fun hh => by
     have h1 := HSZ.o
     have h2 := hh.2
     have h3 := hh.1.1
     have h4 := hq1'.2 ⟨by omega, h3⟩
     cases h4
    clear hq1'
    go_wp2
    go_ret
    exact CtrAns.no HNO.o HC1.o.ct HC1.o.pa
  obtain ⟨hLp, hpq⟩ := hq1'.1 rfl
  clear hq1'
  have y2 := HC1.o.bx.2 2 _ rfl
  have y3 := HC1.o.bx.2 3 _ rfl
  have y4 := HC1.o.bx.2 4 _ rfl
  have y5 := HC1.o.bx.2 5 _ rfl
  have y6 := HC1.o.bx.2 6 _ rfl
  have y7 := HC1.o.bx.2 7 _ rfl
  have y8 := HC1.o.bx.2 8 _ rfl
  have y9 := HC1.o.bx.2 9 _ rfl
  have OW := HOWN.o w1 HC1.o.bl
  go_wp2_with fail
  refine OW.mono ?_
  rintro e w2 ⟨q2, rfl, hq2, hb2⟩
  have HC2 := iH (HC1.o.below HC1.o.bl.size hb2)
  clear OW hb2 HC1 HOWN y2 y3 y4 y5 y6 y7 y8 y9
  cases q2
  · have HNO : Hd (¬ nodeOk d) := fun hh => by have h := hq2.2 hh; cases h
    clear hq2
    go_wp2
    go_ret
    exact CtrAns.no (eOk_no HNO.o) HC2.o.ct HC2.o.pa
  have HNODE := iH (hq2.1 rfl)
  clear hq2
  have x9 := HC2.o.bx.2 9 _ rfl
  obtain ⟨n, hnn⟩ : ∃ n, n = d.n := ⟨_, rfl⟩
  have HNN := iH hnn
  rw [← hnn] at x9
  have hn20 := show n ≤ 4 by have h := HNODE.o.1; unfold kOk at h; omega
  by_cases hn1 : n = 0
  · have HN0 := iH hn1
    rw [hn1] at x9
    clear hn1 hnn
    go_wp2_with fail
    clear x9
    go_loopw [22] (fun i wr => i = .int .i64 0 ∧ Hd (CS w0 w wr g (L - 1) [.int .i64 p, .int .i64 q, .int .i64 d.k, .int .i64 d.op, .slice d.v.a d.v.len d.v.cap, .int .i64 d.t.t.k, .slice d.t.t.a d.t.t.len d.t.t.cap, .int .i64 d.t.t.n, .int .i64 d.t.t.s, .slice d.ka d.n d.kc])) (fun _ _ => 0)
    case atStart => exact ⟨rfl, HC2⟩
    obtain ⟨rfl, HCr⟩ := hrel
    go_wp2
    go_ret
    have h4 := HSZ.o
    rw [← HNN.o, HN0.o] at h4
    have h5 : sumN 0 (fun i => esz (kid i)) = 0 := rfl
    exact CtrAns.yes ⟨hpq, HNODE.o, fun i hi => by rw [← HNN.o, HN0.o] at hi; exact absurd hi nN⟩ (by omega) (by omega) HCr.o.ct HCr.o.pa
  obtain ⟨b, off, eK, _, hbk, hck⟩ := HKR.o.resolve_left (by omega)
  have HCK := iH hck
  have hbk' : b < w0.heap.size := hbk
  rw [eK] at x9
  clear eK hck hnn hbk HKR
  go_wp2_with fail
  clear x9
  go_loopw [22] (fun i wr => ∃ (k : Nat) (Lr : Int), k ≤ n ∧ i = .int .i64 k ∧ 0 ≤ Lr ∧ Lr ≤ 100000 ∧ Hd (Lr = L - 1 - (sumN k (fun i => esz (kid i)) : Nat)) ∧ Hd (∀ j, j < k → eOk q (kid j) (p + 1)) ∧ Hd (CS w0 w wr g Lr [.int .i64 p, .int .i64 q, .int .i64 d.k, .int .i64 d.op, .slice d.v.a d.v.len d.v.cap, .int .i64 d.t.t.k, .slice d.t.t.a d.t.t.len d.t.t.cap, .int .i64 d.t.t.n, .int .i64 d.t.t.s, .slice d.ka d.n d.kc])) (fun i _ => n - (intOf i).toNat)
  case atStart => exact ⟨0, L - 1, nZ, rfl, by omega, by omega, (show L - 1 = L - 1 - ((0 : Nat) : Int) by omega), fun j hj => absurd hj nN, HC2⟩
  clear HC2
  obtain ⟨k, Lr, hk, rfl, hLr0, hLr1, HLR, HOKS, HCr⟩ := hrel
  by_cases hlk : k < n
  rotate_left
  · obtain rfl : k = n := by omega
    have hlkz : ¬ (k : Int) < (k : Int) := by omega
    go_wp2
    go_ret
    have h2 := HSZ.o
    have h4 := HLR.o
    rw [HNN.o] at h4
    exact CtrAns.yes ⟨hpq, HNODE.o, fun i hi => HOKS.o i (by rw [HNN.o]; exact hi)⟩ (by omega) (by omega) HCr.o.ct HCr.o.pa
  have hlkz : (k : Int) < (n : Int) := by omega
  have hcx : wr.rangeAt b (off + k * 8) (kid k).d.cl := fun c u hu => (HCr.o.bl.cell (p := ⟨b, off + k * 8 + c, none⟩) hbk').trans (HCK.o k (by rw [← HNN.o]; exact hlk) c u hu)
  go_upto_region 6 with (with_reducible refine wpl_at ?_; refine wpList_load_mid rfl 42 _ rfl _ _ rfl (kid k).d.cl _ hcx Tryz.underlying42 rfl (by kernel_rfl) ?_; try simp only [Act.put, sA, zA, cA])
  clear hcx
  have HCw : Hd (CS w0 w (wr.alloc (.cells (kid k).d.ar 42)).drew g Lr [.int .i64 p, .int .i64 q, .int .i64 d.k, .int .i64 d.op, .slice d.v.a d.v.len d.v.cap, .int .i64 d.t.t.k, .slice d.t.t.a d.t.t.len d.t.t.cap, .int .i64 d.t.t.n, .int .i64 d.t.t.s, .slice d.ka d.n d.kc]) := (HCr.o.below HCr.o.bl.size (bl_a _)).below (Nat.le_trans HCr.o.bl.size (bl_a _).size) bdr
  have HBk := iH ((Box.new wr (kid k).d.ar 42 (0, 0)).below bdr)
  have hwne : wr.heap.size ≠ g := by have := HCr.o.pa.size; omega
  refine whd (fun w' => Bl w0 w' ∧ Box w' w.heap.size [.int .i64 p, .int .i64 q, .int .i64 d.k, .int .i64 d.op, .slice d.v.a d.v.len d.v.cap, .int .i64 d.t.t.k, .slice d.t.t.a d.t.t.len d.t.t.cap, .int .i64 d.t.t.n, .int .i64 d.t.t.s, .slice d.ka d.n d.kc] ∧ Box w' wr.heap.size (kid k).d.cl) ?_ fun hHeld => ?_
  · exact ⟨HCw.o.bl, HCw.o.bx, HBk.o⟩
  refine tkB 0 26 ?_
  refine tkB 1 27 ?_
  refine tkA 2 28 (v := ?v3) ?y3 ?_
  case y3 => (intro w' hSw; have q1 := hSw.2.1.2 0 _ rfl; have q2 := hSw.2.1.2 1 _ rfl; go_simp; (try with_reducible rfl))
  try simp only [Act.put, sA, zA, cA]
  refine takeq (i := 4) 30 (v := .agg (kid k).d.ar) rfl rfl (by kernel_rfl) (by kernel_rfl) (by kernel_rfl) (fun _ _ _ h => h) (yieldsIf_load_mid (by rfl) 42 _ rfl wr.heap.size 0 rfl _ _ (fun w' hw' => hw'.2.2.range 0 _ rfl) Tryz.underlying42 rfl (by kernel_rfl)) hHeld ?_
  try simp only [Act.put, sA, zA, cA]
  refine rdA 3 fun K hK => ?_
  go_simp
  refine (placeBelow_any p q _ hp0 hp1).mono ?_
  rintro e z1 ⟨rfl, hb1⟩
  have HC3 := iH (HCw.o.below HCw.o.bl.size hb1)
  have HBz := iH (HBk.o.below hb1)
  clear hb1
  go_wp2_with fail
  refine hK.out _ _ ?_ fun hHeld => ?_
  · exact ⟨HC3.o.bl, HC3.o.bx, HBz.o⟩
  clear hK K
  refine tkB 5 31 ?_
  refine rdA 6 fun K hK => ?_
  go_simp
  refine (HIH.o k (by rw [← HNN.o]; exact hlk) Lr z1 HC3.o.bl HC3.o.ct hLr0 hLr1 hpq).mono ?_
  rintro e w5 ⟨q5, L5, rfl, hq5, hL5, hc5, hp5⟩
  have HC5 := iH (HC3.o.past hg hgw hp5 hc5)
  have HB5 := iH (HBz.o.past hp5 hwne)
  clear hc5 hp5
  go_wp2_with fail
  refine hK.out _ _ ?_ fun hHeld => ?_
  · exact ⟨HC5.o.bl, HC5.o.bx, HB5.o⟩
  clear hK K
  refine tkB 7 33 ?_
  refine wpAnyH_done (by kernel_rfl) ?_ _
  clear hHeld HBk HBz HB5 HC3 HCw HCr
  have HS : Hd (sumN (k + 1) (fun i => esz (kid i)) = sumN k (fun i => esz (kid i)) + esz (kid k)) := rfl
  cases q5
  · have HNO : Hd (¬ (eOk q (.mk d kid) p ∧ ((esz (.mk d kid) : Nat) : Int) ≤ L)) := fun hh => by
     have h1 := hh.1.2.2 k (by rw [← HNN.o]; exact hlk)
     have h2 := HSZ.o
     have h3 := sumN_mono (f := (fun i => esz (kid i))) (show k + 1 ≤ d.n by rw [← HNN.o]; omega)
     have h4 := HLR.o
     have h5 := HS.o
     have h6 := hh.2
     have h7 := hq5.2 ⟨h1, by omega⟩
     cases h7
    clear hq5 hL5
    go_wp2
    go_ret
    exact CtrAns.no HNO.o HC5.o.ct HC5.o.pa
  obtain ⟨h51, h52⟩ := hq5.1 rfl
  have h53 := hL5 rfl
  have HN5 := iH h51
  have HL5 : Hd (L5 = L - 1 - (sumN (k + 1) (fun i => esz (kid i)) : Nat)) := (show L5 = _ by have h1 := HS.o; have h2 := HLR.o; omega)
  have hL50 : 0 ≤ L5 := by omega
  have hL51 : L5 ≤ 100000 := by omega
  clear h51 h52 h53 hq5 hL5
  go_wp2
  go_roundw
  case rel =>
   refine ⟨k + 1, L5, by omega, by go_num, hL50, hL51, HL5, fun j hj => ?_, HC5⟩
   by_cases e : j = k
   · subst e
     exact HN5.o
   exact HOKS.o j (by omega)
  case measure => simp [intOf]; omega
end Go.Proofs.YtoloadogihbdeaaGreat
