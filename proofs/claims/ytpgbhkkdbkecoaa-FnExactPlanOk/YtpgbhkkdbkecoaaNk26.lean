/- Texts put together: TreP1 TreP2 TreP3 TreP4 TreP5 TreP6 TreP7 TreQ -/
import Derived.Test.YtpgbhkkdbkecoaaNk25
/- TreP1 -/
namespace Go.Proofs.Ytpgbhkkdbkecoaa
open Go.RowKit Go.Deep
set_option maxRecDepth 100000


set_option maxHeartbeats 4000000 in
theorem hasOwnE_1 (d : EN) (w : World) (hkv : d.k = 1) (hv : BsF 0 w d.v) (ht : BsF 0 w d.t.sl) (hf : d.t.t.fits) (hn : d.n ≤ 1048576) : Calls Try.prog 89 #[.agg #[.int .i64 d.k, .int .i64 d.op, .slice d.v.a d.v.len d.v.cap, .int .i64 d.t.t.k, .slice d.t.t.a d.t.t.len d.t.t.cap, .int .i64 d.t.t.n, .int .i64 d.t.t.s, .slice d.ka d.n d.kc]] w (Tells (nodeOk d) w) := by
  have KC := fun W => kidCount_any 1 W
  have e1 : kLo 1 = 0 := by decide
  have e2 : kHi 1 = 0 := by decide
  rw [e1, e2] at KC
  clear e1 e2
  have WI := fun W => within_any (d.n : Int) 0 0 W
  have HIB : Hid (∀ W, Below w.heap.size w W → Calls Try.prog 107 #[.agg #[.int .i64 1, .int .i64 d.op, .slice d.v.a d.v.len d.v.cap, .int .i64 0, .slice none 0 0, .int .i64 0, .int .i64 0, .slice d.ka d.n d.kc]] W (Tells (BareN ⟨1, d.op, d.v, ⟨⟨0, none, 0, 0, 0, 0⟩, []⟩, d.ka, d.kc, d.n⟩) W)) := fun W hb => isBare_any ⟨1, d.op, d.v, ⟨⟨0, none, 0, 0, 0, 0⟩, []⟩, d.ka, d.kc, d.n⟩ W (hv.upper (Upper.of_below hb)) (bs_nil W)
  have HKO : Hid (kOk d.k d.n ↔ ((0 : Int) ≤ (d.n : Int) ∧ (d.n : Int) ≤ 0)) := (show (_ ↔ _) by rw [hkv]; unfold kOk; omega)
  have HKV : Hid (d.k = 1) := hkv
  have HTO : Hid (∀ W, Below w.heap.size w W → Calls Try.prog 99 #[.agg #[.int .i64 d.t.t.k, .slice d.t.t.a d.t.t.len d.t.t.cap, .int .i64 d.t.t.n, .int .i64 d.t.t.s]] W fun e w' => e = .returned (.bool (termOk d.t.t.k d.t.b d.t.t.n d.t.t.s)) ∧ Below W.heap.size W w') := fun W hb => implTermOk_any d.t.t.k d.t.t.n d.t.t.s d.t.t.a d.t.t.len d.t.t.cap d.t.b W (ht.upper (Upper.of_below hb)).1 hf.1 hf.2.1 hf.2.2.1 hf.2.2.2
  rw [hkv]
  clear hv ht hf hkv
  go_enter Try.func89, Try.ntmps89
  go_wp2_with fail
  refine (KC _).mono ?_
  rintro e w1 ⟨rfl, rfl⟩
  clear KC
  go_wp2_with fail
  refine (WI _).mono ?_
  rintro e w1 ⟨rfl, rfl⟩
  clear WI
  by_cases hkn : (0 : Int) ≤ (d.n : Int) ∧ (d.n : Int) ≤ 0
  rotate_left
  · have hw2 : (decide ((0 : Int) ≤ (d.n : Int)) && decide ((d.n : Int) ≤ 0)) = false := by simp; omega
    have HNO : Hid (¬ nodeOk d) := fun hh => hkn (HKO.out.1 hh.1)
    rw [hw2]
    clear hkn hw2
    go_wp2_with fail
    go_ret
    exact Tells.no HNO.out (bl_a _)
  have hw2 : (decide ((0 : Int) ≤ (d.n : Int)) && decide ((d.n : Int) ≤ 0)) = true := by simp; omega
  have HK : Hid (kOk d.k d.n) := HKO.out.2 hkn
  rw [hw2]
  clear hkn hw2 HKO
  have TO := HTO.out
  cases hnm : termOk d.t.t.k d.t.b d.t.t.n d.t.t.s with
  | false =>
    rw [hnm] at TO
    have HNO : Hid (¬ nodeOk d) := fun hh => by have h := hh.2.2.2.1 HKV.out; have h2 : termOk d.t.t.k d.t.b d.t.t.n d.t.t.s = true := h; rw [hnm] at h2; cases h2
    clear hnm
    go_wp2_with fail
    refine (TO _ (bl_alloc (bl_a _) _)).mono ?_
    rintro e w3 ⟨rfl, hb3⟩
    have HB3 : Hid (Below w.heap.size w w3) := bl_trans (bl_alloc (bl_a _) _) hb3
    have r3 : OB w3 (w.heap.size + 1) [.int .i64 1, .int .i64 d.op, .slice d.v.a d.v.len d.v.cap, .int .i64 d.t.t.k, .slice d.t.t.a d.t.t.len d.t.t.cap, .int .i64 d.t.t.n, .int .i64 d.t.t.s, .slice d.ka d.n d.kc] := (show OB _ _ _ by have h := (OB.new (w.alloc (.cells #[.int .i64 1, .int .i64 d.op, .slice d.v.a d.v.len d.v.cap, .int .i64 d.t.t.k, .slice d.t.t.a d.t.t.len d.t.t.cap, .int .i64 d.t.t.n, .int .i64 d.t.t.s, .slice d.ka d.n d.kc] 39)) #[.int .i64 1, .int .i64 d.op, .slice d.v.a d.v.len d.v.cap, .int .i64 d.t.t.k, .slice d.t.t.a d.t.t.len d.t.t.cap, .int .i64 d.t.t.n, .int .i64 d.t.t.s, .slice d.ka d.n d.kc] 39).below hb3; simpa using h)
    have HBf : Hid (Below w.heap.size w (w3.setCells (w.heap.size + 1) 3 [.int .i64 0, .slice none 0 0, .int .i64 0, .int .i64 0])) := below_sets _ (Nat.le_succ _) _ _ _ HB3.out
    have st0 : w3.there (w.heap.size + 1) 3 4 := r3.there 3 4 (by simp)
    have one1 : (#[.int .i64 0, .slice none 0 0, .int .i64 0, .int .i64 0] : Array Value).all (·.oneCell') = true := all_oneCell_toArray (cs := [.int .i64 0, .slice none 0 0, .int .i64 0, .int .i64 0]) (by simp [Value.oneCell'])
    clear TO hb3 r3
    go_upto_region 18 with (with_reducible refine wpl_at ?_; refine wpList_store_mid rfl 36 _ _ rfl _ _ _ rfl rfl st0 (by kernel_rfl) one1 ?_; try simp only [Act.put])
    generalize w3.setCells (w.heap.size + 1) 3 [.int .i64 0, .slice none 0 0, .int .i64 0, .int .i64 0] = W4 at *
    clear st0 one1
    go_wp2_with fail
    go_ret
    exact Tells.no HNO.out HBf.out
  | true =>
    rw [hnm] at TO
    have HNM : Hid (d.t.td.ok = true) := hnm
    clear hnm
    go_wp2_with fail
    refine (TO _ (bl_alloc (bl_a _) _)).mono ?_
    rintro e w3 ⟨rfl, hb3⟩
    have HB3 : Hid (Below w.heap.size w w3) := bl_trans (bl_alloc (bl_a _) _) hb3
    have r3 : OB w3 (w.heap.size + 1) [.int .i64 1, .int .i64 d.op, .slice d.v.a d.v.len d.v.cap, .int .i64 d.t.t.k, .slice d.t.t.a d.t.t.len d.t.t.cap, .int .i64 d.t.t.n, .int .i64 d.t.t.s, .slice d.ka d.n d.kc] := (show OB _ _ _ by have h := (OB.new (w.alloc (.cells #[.int .i64 1, .int .i64 d.op, .slice d.v.a d.v.len d.v.cap, .int .i64 d.t.t.k, .slice d.t.t.a d.t.t.len d.t.t.cap, .int .i64 d.t.t.n, .int .i64 d.t.t.s, .slice d.ka d.n d.kc] 39)) #[.int .i64 1, .int .i64 d.op, .slice d.v.a d.v.len d.v.cap, .int .i64 d.t.t.k, .slice d.t.t.a d.t.t.len d.t.t.cap, .int .i64 d.t.t.n, .int .i64 d.t.t.s, .slice d.ka d.n d.kc] 39).below hb3; simpa using h)
    have HBf : Hid (Below w.heap.size w (w3.setCells (w.heap.size + 1) 3 [.int .i64 0, .slice none 0 0, .int .i64 0, .int .i64 0])) := below_sets _ (Nat.le_succ _) _ _ _ HB3.out
    have HR4 : Hid (Box (w3.setCells (w.heap.size + 1) 3 [.int .i64 0, .slice none 0 0, .int .i64 0, .int .i64 0]) (w.heap.size + 1) [.int .i64 1, .int .i64 d.op, .slice d.v.a d.v.len d.v.cap, .int .i64 0, .slice none 0 0, .int .i64 0, .int .i64 0, .slice d.ka d.n d.kc]) := (r3.sets [.int .i64 0, .slice none 0 0, .int .i64 0, .int .i64 0] 3).box
    have st0 : w3.there (w.heap.size + 1) 3 4 := r3.there 3 4 (by simp)
    have one1 : (#[.int .i64 0, .slice none 0 0, .int .i64 0, .int .i64 0] : Array Value).all (·.oneCell') = true := all_oneCell_toArray (cs := [.int .i64 0, .slice none 0 0, .int .i64 0, .int .i64 0]) (by simp [Value.oneCell'])
    clear TO hb3 r3
    go_upto_region 18 with (with_reducible refine wpl_at ?_; refine wpList_store_mid rfl 36 _ _ rfl _ _ _ rfl rfl st0 (by kernel_rfl) one1 ?_; try simp only [Act.put])
    generalize w3.setCells (w.heap.size + 1) 3 [.int .i64 0, .slice none 0 0, .int .i64 0, .int .i64 0] = W4 at *
    clear st0 one1
    have s0 := HR4.out.2 0 _ rfl
    have s1 := HR4.out.2 1 _ rfl
    have s2 := HR4.out.2 2 _ rfl
    have s3 := HR4.out.2 3 _ rfl
    have s4 := HR4.out.2 4 _ rfl
    have s5 := HR4.out.2 5 _ rfl
    have s6 := HR4.out.2 6 _ rfl
    have s7 := HR4.out.2 7 _ rfl
    go_wp2_with fail
    refine (HIB.out _ HBf.out).mono ?_
    rintro e w9 ⟨q9, rfl, hq9, hb9⟩
    have HE : Hid (q9 = true ↔ nodeOk d) := (show (q9 = true ↔ nodeOk d) from hq9.trans ⟨fun h => ⟨HK.out, fun h2 => absurd h2 (by rw [HKV.out]; decide), fun _ => h.2.1, fun _ => HNM.out, fun h2 => absurd HKV.out h2, ⟨by rw [h.1]; decide, by rw [h.1]; decide⟩, fun _ => h.1⟩, fun h => BareN.mk (h.2.2.2.2.2.2 (by rw [HKV.out]; decide)) (h.2.2.1 (by rw [HKV.out]; decide)) zeroT0⟩)
    have HB9 : Hid (Below w.heap.size w w9) := bl_trans HBf.out hb9
    clear hq9 hb9
    go_wp2_with fail
    go_ret
    exact Tells.of HE.out HB9.out

end Go.Proofs.Ytpgbhkkdbkecoaa

/- TreP2 -/
namespace Go.Proofs.Ytpgbhkkdbkecoaa
open Go.RowKit Go.Deep
set_option maxRecDepth 100000


set_option maxHeartbeats 4000000 in
theorem hasOwnE_2 (d : EN) (w : World) (hkv : d.k = 2) (hv : BsF 0 w d.v) (ht : BsF 0 w d.t.sl) (_hf : d.t.t.fits) (hn : d.n ≤ 1048576) : Calls Try.prog 89 #[.agg #[.int .i64 d.k, .int .i64 d.op, .slice d.v.a d.v.len d.v.cap, .int .i64 d.t.t.k, .slice d.t.t.a d.t.t.len d.t.t.cap, .int .i64 d.t.t.n, .int .i64 d.t.t.s, .slice d.ka d.n d.kc]] w (Tells (nodeOk d) w) := by
  have KC := fun W => kidCount_any 2 W
  have e1 : kLo 2 = 2 := by decide
  have e2 : kHi 2 = 2 := by decide
  rw [e1, e2] at KC
  clear e1 e2
  have WI := fun W => within_any (d.n : Int) 2 2 W
  have HIB : Hid (∀ W, Below w.heap.size w W → Calls Try.prog 107 #[.agg #[.int .i64 2, .int .i64 0, .slice d.v.a d.v.len d.v.cap, .int .i64 d.t.t.k, .slice d.t.t.a d.t.t.len d.t.t.cap, .int .i64 d.t.t.n, .int .i64 d.t.t.s, .slice d.ka d.n d.kc]] W (Tells (BareN ⟨2, 0, d.v, d.t, d.ka, d.kc, d.n⟩) W)) := fun W hb => isBare_any ⟨2, 0, d.v, d.t, d.ka, d.kc, d.n⟩ W (hv.upper (Upper.of_below hb)) (ht.upper (Upper.of_below hb))
  have HKO : Hid (kOk d.k d.n ↔ ((2 : Int) ≤ (d.n : Int) ∧ (d.n : Int) ≤ 2)) := (show (_ ↔ _) by rw [hkv]; unfold kOk; omega)
  have HKV : Hid (d.k = 2) := hkv
  have WO := fun W => within_any d.op 0 7 W
  rw [hkv]
  clear hv ht hkv
  go_enter Try.func89, Try.ntmps89
  go_wp2_with fail
  refine (KC _).mono ?_
  rintro e w1 ⟨rfl, rfl⟩
  clear KC
  go_wp2_with fail
  refine (WI _).mono ?_
  rintro e w1 ⟨rfl, rfl⟩
  clear WI
  by_cases hkn : (2 : Int) ≤ (d.n : Int) ∧ (d.n : Int) ≤ 2
  rotate_left
  · have hw2 : (decide ((2 : Int) ≤ (d.n : Int)) && decide ((d.n : Int) ≤ 2)) = false := by simp; omega
    have HNO : Hid (¬ nodeOk d) := fun hh => hkn (HKO.out.1 hh.1)
    rw [hw2]
    clear hkn hw2
    go_wp2_with fail
    go_ret
    exact Tells.no HNO.out (bl_a _)
  have hw2 : (decide ((2 : Int) ≤ (d.n : Int)) && decide ((d.n : Int) ≤ 2)) = true := by simp; omega
  have HK : Hid (kOk d.k d.n) := HKO.out.2 hkn
  rw [hw2]
  clear hkn hw2 HKO
  by_cases ho : 0 ≤ d.op ∧ d.op ≤ 7
  rotate_left
  · have hw3 : (decide (0 ≤ d.op) && decide (d.op ≤ 7)) = false := by simp; omega
    have HNO : Hid (¬ nodeOk d) := fun hh => ho hh.2.2.2.2.2.1
    rw [hw3] at WO
    clear ho hw3
    go_wp2_with fail
    refine (WO _).mono ?_
    rintro e w3 ⟨rfl, rfl⟩
    clear WO
    go_wp2_with fail
    go_ret
    exact Tells.no HNO.out (bl_alloc (bl_a _) _)
  have hw3 : (decide (0 ≤ d.op) && decide (d.op ≤ 7)) = true := by simp; omega
  have HO : Hid (0 ≤ d.op ∧ d.op ≤ 7) := ho
  rw [hw3] at WO
  clear ho hw3
  go_wp2_with fail
  refine (WO _).mono ?_
  rintro e w3 ⟨rfl, rfl⟩
  clear WO
  go_wp2_with fail
  refine (HIB.out _ (bl_alloc (bl_a _) _)).mono ?_
  rintro e w9 ⟨q9, rfl, hq9, hb9⟩
  have HE : Hid (q9 = true ↔ nodeOk d) := (show (q9 = true ↔ nodeOk d) from hq9.trans ⟨fun h => ⟨HK.out, fun h2 => absurd h2 (by rw [HKV.out]; decide), fun _ => h.2.1, fun h2 => absurd h2 (by rw [HKV.out]; decide), fun _ => h.2.2, HO.out, fun h2 => absurd HKV.out h2⟩, fun h => BareN.mk rfl (h.2.2.1 (by rw [HKV.out]; decide)) (h.2.2.2.2.1 (by rw [HKV.out]; decide))⟩)
  have HB9 : Hid (Below w.heap.size w w9) := bl_trans (bl_alloc (bl_a _) _) hb9
  clear hq9 hb9
  go_wp2_with fail
  go_ret
  exact Tells.of HE.out HB9.out

end Go.Proofs.Ytpgbhkkdbkecoaa

/- TreP3 -/
namespace Go.Proofs.Ytpgbhkkdbkecoaa
open Go.RowKit Go.Deep
set_option maxRecDepth 100000


set_option maxHeartbeats 4000000 in
theorem hasOwnE_3 (d : EN) (w : World) (hkv : d.k = 3) (hv : BsF 0 w d.v) (ht : BsF 0 w d.t.sl) (_hf : d.t.t.fits) (hn : d.n ≤ 1048576) : Calls Try.prog 89 #[.agg #[.int .i64 d.k, .int .i64 d.op, .slice d.v.a d.v.len d.v.cap, .int .i64 d.t.t.k, .slice d.t.t.a d.t.t.len d.t.t.cap, .int .i64 d.t.t.n, .int .i64 d.t.t.s, .slice d.ka d.n d.kc]] w (Tells (nodeOk d) w) := by
  have KC := fun W => kidCount_any 3 W
  have e1 : kLo 3 = 1 := by decide
  have e2 : kHi 3 = 1 := by decide
  rw [e1, e2] at KC
  clear e1 e2
  have WI := fun W => within_any (d.n : Int) 1 1 W
  have HIB : Hid (∀ W, Below w.heap.size w W → Calls Try.prog 107 #[.agg #[.int .i64 3, .int .i64 d.op, .slice d.v.a d.v.len d.v.cap, .int .i64 d.t.t.k, .slice d.t.t.a d.t.t.len d.t.t.cap, .int .i64 d.t.t.n, .int .i64 d.t.t.s, .slice d.ka d.n d.kc]] W (Tells (BareN ⟨3, d.op, d.v, d.t, d.ka, d.kc, d.n⟩) W)) := fun W hb => isBare_any ⟨3, d.op, d.v, d.t, d.ka, d.kc, d.n⟩ W (hv.upper (Upper.of_below hb)) (ht.upper (Upper.of_below hb))
  have HKO : Hid (kOk d.k d.n ↔ ((1 : Int) ≤ (d.n : Int) ∧ (d.n : Int) ≤ 1)) := (show (_ ↔ _) by rw [hkv]; unfold kOk; omega)
  have HKV : Hid (d.k = 3) := hkv
  rw [hkv]
  clear hv ht hkv
  go_enter Try.func89, Try.ntmps89
  go_wp2_with fail
  refine (KC _).mono ?_
  rintro e w1 ⟨rfl, rfl⟩
  clear KC
  go_wp2_with fail
  refine (WI _).mono ?_
  rintro e w1 ⟨rfl, rfl⟩
  clear WI
  by_cases hkn : (1 : Int) ≤ (d.n : Int) ∧ (d.n : Int) ≤ 1
  rotate_left
  · have hw2 : (decide ((1 : Int) ≤ (d.n : Int)) && decide ((d.n : Int) ≤ 1)) = false := by simp; omega
    have HNO : Hid (¬ nodeOk d) := fun hh => hkn (HKO.out.1 hh.1)
    rw [hw2]
    clear hkn hw2
    go_wp2_with fail
    go_ret
    exact Tells.no HNO.out (bl_a _)
  have hw2 : (decide ((1 : Int) ≤ (d.n : Int)) && decide ((d.n : Int) ≤ 1)) = true := by simp; omega
  have HK : Hid (kOk d.k d.n) := HKO.out.2 hkn
  rw [hw2]
  clear hkn hw2 HKO
  go_wp2_with fail
  refine (HIB.out _ (bl_alloc (bl_a _) _)).mono ?_
  rintro e w9 ⟨q9, rfl, hq9, hb9⟩
  have HE : Hid (q9 = true ↔ nodeOk d) := (show (q9 = true ↔ nodeOk d) from hq9.trans ⟨fun h => ⟨HK.out, fun h2 => absurd h2 (by rw [HKV.out]; decide), fun _ => h.2.1, fun h2 => absurd h2 (by rw [HKV.out]; decide), fun _ => h.2.2, ⟨by rw [h.1]; decide, by rw [h.1]; decide⟩, fun _ => h.1⟩, fun h => BareN.mk (h.2.2.2.2.2.2 (by rw [HKV.out]; decide)) (h.2.2.1 (by rw [HKV.out]; decide)) (h.2.2.2.2.1 (by rw [HKV.out]; decide))⟩)
  have HB9 : Hid (Below w.heap.size w w9) := bl_trans (bl_alloc (bl_a _) _) hb9
  clear hq9 hb9
  go_wp2_with fail
  go_ret
  exact Tells.of HE.out HB9.out

end Go.Proofs.Ytpgbhkkdbkecoaa

/- TreP4 -/
namespace Go.Proofs.Ytpgbhkkdbkecoaa
open Go.RowKit Go.Deep
set_option maxRecDepth 100000


set_option maxHeartbeats 4000000 in
theorem hasOwnE_4 (d : EN) (w : World) (hkv : d.k = 4) (hv : BsF 0 w d.v) (ht : BsF 0 w d.t.sl) (_hf : d.t.t.fits) (hn : d.n ≤ 1048576) : Calls Try.prog 89 #[.agg #[.int .i64 d.k, .int .i64 d.op, .slice d.v.a d.v.len d.v.cap, .int .i64 d.t.t.k, .slice d.t.t.a d.t.t.len d.t.t.cap, .int .i64 d.t.t.n, .int .i64 d.t.t.s, .slice d.ka d.n d.kc]] w (Tells (nodeOk d) w) := by
  have KC := fun W => kidCount_any 4 W
  have e1 : kLo 4 = 0 := by decide
  have e2 : kHi 4 = 0 := by decide
  rw [e1, e2] at KC
  clear e1 e2
  have WI := fun W => within_any (d.n : Int) 0 0 W
  have HIB : Hid (∀ W, Below w.heap.size w W → Calls Try.prog 107 #[.agg #[.int .i64 4, .int .i64 d.op, .slice none 0 0, .int .i64 d.t.t.k, .slice d.t.t.a d.t.t.len d.t.t.cap, .int .i64 d.t.t.n, .int .i64 d.t.t.s, .slice d.ka d.n d.kc]] W (Tells (BareN ⟨4, d.op, ⟨none, 0, 0, []⟩, d.t, d.ka, d.kc, d.n⟩) W)) := fun W hb => isBare_any ⟨4, d.op, ⟨none, 0, 0, []⟩, d.t, d.ka, d.kc, d.n⟩ W (bs_nil W) (ht.upper (Upper.of_below hb))
  have HKO : Hid (kOk d.k d.n ↔ ((0 : Int) ≤ (d.n : Int) ∧ (d.n : Int) ≤ 0)) := (show (_ ↔ _) by rw [hkv]; unfold kOk; omega)
  have HKV : Hid (d.k = 4) := hkv
  have HIN : Hid (∀ W, Below w.heap.size w W → Calls Try.prog 86 #[.slice d.v.a d.v.len d.v.cap] W fun e w' => e = .returned (.bool (nameOk d.v.b)) ∧ w' = W) := fun W hb => isName_any d.v.a d.v.len d.v.cap d.v.b W (hv.upper (Upper.of_below hb)).1
  rw [hkv]
  clear hv ht hkv
  go_enter Try.func89, Try.ntmps89
  go_wp2_with fail
  refine (KC _).mono ?_
  rintro e w1 ⟨rfl, rfl⟩
  clear KC
  go_wp2_with fail
  refine (WI _).mono ?_
  rintro e w1 ⟨rfl, rfl⟩
  clear WI
  by_cases hkn : (0 : Int) ≤ (d.n : Int) ∧ (d.n : Int) ≤ 0
  rotate_left
  · have hw2 : (decide ((0 : Int) ≤ (d.n : Int)) && decide ((d.n : Int) ≤ 0)) = false := by simp; omega
    have HNO : Hid (¬ nodeOk d) := fun hh => hkn (HKO.out.1 hh.1)
    rw [hw2]
    clear hkn hw2
    go_wp2_with fail
    go_ret
    exact Tells.no HNO.out (bl_a _)
  have hw2 : (decide ((0 : Int) ≤ (d.n : Int)) && decide ((d.n : Int) ≤ 0)) = true := by simp; omega
  have HK : Hid (kOk d.k d.n) := HKO.out.2 hkn
  rw [hw2]
  clear hkn hw2 HKO
  have IN := HIN.out
  cases hnm : nameOk d.v.b with
  | false =>
    rw [hnm] at IN
    have HNO : Hid (¬ nodeOk d) := fun hh => by have h := hh.2.1 (by rw [HKV.out]; simp); rw [hnm] at h; cases h
    clear hnm
    go_wp2_with fail
    refine (IN _ (bl_alloc (bl_a _) _)).mono ?_
    rintro e w3 ⟨rfl, rfl⟩
    clear IN
    go_wp2_with fail
    go_ret
    exact Tells.no HNO.out (bl_alloc (bl_a _) _)
  | true =>
    rw [hnm] at IN
    have HNM : Hid (nameOk d.v.b = true) := hnm
    clear hnm
    go_wp2_with fail
    refine (IN _ (bl_alloc (bl_a _) _)).mono ?_
    rintro e w3 ⟨rfl, rfl⟩
    clear IN
    go_wp2_with fail
    refine (HIB.out _ (bl_alloc (bl_a _) _)).mono ?_
    rintro e w9 ⟨q9, rfl, hq9, hb9⟩
    have HE : Hid (q9 = true ↔ nodeOk d) := (show (q9 = true ↔ nodeOk d) from hq9.trans ⟨fun h => ⟨HK.out, fun _ => HNM.out, fun h2 => absurd (by rw [HKV.out]; simp) h2, fun h2 => absurd h2 (by rw [HKV.out]; decide), fun _ => h.2.2, ⟨by rw [h.1]; decide, by rw [h.1]; decide⟩, fun _ => h.1⟩, fun h => BareN.mk (h.2.2.2.2.2.2 (by rw [HKV.out]; decide)) rfl (h.2.2.2.2.1 (by rw [HKV.out]; decide))⟩)
    have HB9 : Hid (Below w.heap.size w w9) := bl_trans (bl_alloc (bl_a _) _) hb9
    clear hq9 hb9
    go_wp2_with fail
    go_ret
    exact Tells.of HE.out HB9.out

end Go.Proofs.Ytpgbhkkdbkecoaa

/- TreP5 -/
namespace Go.Proofs.Ytpgbhkkdbkecoaa
open Go.RowKit Go.Deep
set_option maxRecDepth 100000


set_option maxHeartbeats 4000000 in
theorem hasOwnE_5 (d : EN) (w : World) (hkv : d.k = 5) (hv : BsF 0 w d.v) (ht : BsF 0 w d.t.sl) (_hf : d.t.t.fits) (hn : d.n ≤ 1048576) : Calls Try.prog 89 #[.agg #[.int .i64 d.k, .int .i64 d.op, .slice d.v.a d.v.len d.v.cap, .int .i64 d.t.t.k, .slice d.t.t.a d.t.t.len d.t.t.cap, .int .i64 d.t.t.n, .int .i64 d.t.t.s, .slice d.ka d.n d.kc]] w (Tells (nodeOk d) w) := by
  have KC := fun W => kidCount_any 5 W
  have e1 : kLo 5 = 3 := by decide
  have e2 : kHi 5 = 3 := by decide
  rw [e1, e2] at KC
  clear e1 e2
  have WI := fun W => within_any (d.n : Int) 3 3 W
  have HIB : Hid (∀ W, Below w.heap.size w W → Calls Try.prog 107 #[.agg #[.int .i64 5, .int .i64 d.op, .slice d.v.a d.v.len d.v.cap, .int .i64 d.t.t.k, .slice d.t.t.a d.t.t.len d.t.t.cap, .int .i64 d.t.t.n, .int .i64 d.t.t.s, .slice d.ka d.n d.kc]] W (Tells (BareN ⟨5, d.op, d.v, d.t, d.ka, d.kc, d.n⟩) W)) := fun W hb => isBare_any ⟨5, d.op, d.v, d.t, d.ka, d.kc, d.n⟩ W (hv.upper (Upper.of_below hb)) (ht.upper (Upper.of_below hb))
  have HKO : Hid (kOk d.k d.n ↔ ((3 : Int) ≤ (d.n : Int) ∧ (d.n : Int) ≤ 3)) := (show (_ ↔ _) by rw [hkv]; unfold kOk; omega)
  have HKV : Hid (d.k = 5) := hkv
  rw [hkv]
  clear hv ht hkv
  go_enter Try.func89, Try.ntmps89
  go_wp2_with fail
  refine (KC _).mono ?_
  rintro e w1 ⟨rfl, rfl⟩
  clear KC
  go_wp2_with fail
  refine (WI _).mono ?_
  rintro e w1 ⟨rfl, rfl⟩
  clear WI
  by_cases hkn : (3 : Int) ≤ (d.n : Int) ∧ (d.n : Int) ≤ 3
  rotate_left
  · have hw2 : (decide ((3 : Int) ≤ (d.n : Int)) && decide ((d.n : Int) ≤ 3)) = false := by simp; omega
    have HNO : Hid (¬ nodeOk d) := fun hh => hkn (HKO.out.1 hh.1)
    rw [hw2]
    clear hkn hw2
    go_wp2_with fail
    go_ret
    exact Tells.no HNO.out (bl_a _)
  have hw2 : (decide ((3 : Int) ≤ (d.n : Int)) && decide ((d.n : Int) ≤ 3)) = true := by simp; omega
  have HK : Hid (kOk d.k d.n) := HKO.out.2 hkn
  rw [hw2]
  clear hkn hw2 HKO
  go_wp2_with fail
  refine (HIB.out _ (bl_alloc (bl_a _) _)).mono ?_
  rintro e w9 ⟨q9, rfl, hq9, hb9⟩
  have HE : Hid (q9 = true ↔ nodeOk d) := (show (q9 = true ↔ nodeOk d) from hq9.trans ⟨fun h => ⟨HK.out, fun h2 => absurd h2 (by rw [HKV.out]; decide), fun _ => h.2.1, fun h2 => absurd h2 (by rw [HKV.out]; decide), fun _ => h.2.2, ⟨by rw [h.1]; decide, by rw [h.1]; decide⟩, fun _ => h.1⟩, fun h => BareN.mk (h.2.2.2.2.2.2 (by rw [HKV.out]; decide)) (h.2.2.1 (by rw [HKV.out]; decide)) (h.2.2.2.2.1 (by rw [HKV.out]; decide))⟩)
  have HB9 : Hid (Below w.heap.size w w9) := bl_trans (bl_alloc (bl_a _) _) hb9
  clear hq9 hb9
  go_wp2_with fail
  go_ret
  exact Tells.of HE.out HB9.out

end Go.Proofs.Ytpgbhkkdbkecoaa

/- TreP6 -/
namespace Go.Proofs.Ytpgbhkkdbkecoaa
open Go.RowKit Go.Deep
set_option maxRecDepth 100000


set_option maxHeartbeats 4000000 in
theorem hasOwnE_6 (d : EN) (w : World) (hkv : d.k = 6) (hv : BsF 0 w d.v) (ht : BsF 0 w d.t.sl) (_hf : d.t.t.fits) (hn : d.n ≤ 1048576) : Calls Try.prog 89 #[.agg #[.int .i64 d.k, .int .i64 d.op, .slice d.v.a d.v.len d.v.cap, .int .i64 d.t.t.k, .slice d.t.t.a d.t.t.len d.t.t.cap, .int .i64 d.t.t.n, .int .i64 d.t.t.s, .slice d.ka d.n d.kc]] w (Tells (nodeOk d) w) := by
  have KC := fun W => kidCount_any 6 W
  have e1 : kLo 6 = 1 := by decide
  have e2 : kHi 6 = 4 := by decide
  rw [e1, e2] at KC
  clear e1 e2
  have WI := fun W => within_any (d.n : Int) 1 4 W
  have HIB : Hid (∀ W, Below w.heap.size w W → Calls Try.prog 107 #[.agg #[.int .i64 6, .int .i64 d.op, .slice d.v.a d.v.len d.v.cap, .int .i64 d.t.t.k, .slice d.t.t.a d.t.t.len d.t.t.cap, .int .i64 d.t.t.n, .int .i64 d.t.t.s, .slice d.ka d.n d.kc]] W (Tells (BareN ⟨6, d.op, d.v, d.t, d.ka, d.kc, d.n⟩) W)) := fun W hb => isBare_any ⟨6, d.op, d.v, d.t, d.ka, d.kc, d.n⟩ W (hv.upper (Upper.of_below hb)) (ht.upper (Upper.of_below hb))
  have HKO : Hid (kOk d.k d.n ↔ ((1 : Int) ≤ (d.n : Int) ∧ (d.n : Int) ≤ 4)) := (show (_ ↔ _) by rw [hkv]; unfold kOk; omega)
  have HKV : Hid (d.k = 6) := hkv
  rw [hkv]
  clear hv ht hkv
  go_enter Try.func89, Try.ntmps89
  go_wp2_with fail
  refine (KC _).mono ?_
  rintro e w1 ⟨rfl, rfl⟩
  clear KC
  go_wp2_with fail
  refine (WI _).mono ?_
  rintro e w1 ⟨rfl, rfl⟩
  clear WI
  by_cases hkn : (1 : Int) ≤ (d.n : Int) ∧ (d.n : Int) ≤ 4
  rotate_left
  · have hw2 : (decide ((1 : Int) ≤ (d.n : Int)) && decide ((d.n : Int) ≤ 4)) = false := by simp; omega
    have HNO : Hid (¬ nodeOk d) := fun hh => hkn (HKO.out.1 hh.1)
    rw [hw2]
    clear hkn hw2
    go_wp2_with fail
    go_ret
    exact Tells.no HNO.out (bl_a _)
  have hw2 : (decide ((1 : Int) ≤ (d.n : Int)) && decide ((d.n : Int) ≤ 4)) = true := by simp; omega
  have HK : Hid (kOk d.k d.n) := HKO.out.2 hkn
  rw [hw2]
  clear hkn hw2 HKO
  go_wp2_with fail
  refine (HIB.out _ (bl_alloc (bl_a _) _)).mono ?_
  rintro e w9 ⟨q9, rfl, hq9, hb9⟩
  have HE : Hid (q9 = true ↔ nodeOk d) := (show (q9 = true ↔ nodeOk d) from hq9.trans ⟨fun h => ⟨HK.out, fun h2 => absurd h2 (by rw [HKV.out]; decide), fun _ => h.2.1, fun h2 => absurd h2 (by rw [HKV.out]; decide), fun _ => h.2.2, ⟨by rw [h.1]; decide, by rw [h.1]; decide⟩, fun _ => h.1⟩, fun h => BareN.mk (h.2.2.2.2.2.2 (by rw [HKV.out]; decide)) (h.2.2.1 (by rw [HKV.out]; decide)) (h.2.2.2.2.1 (by rw [HKV.out]; decide))⟩)
  have HB9 : Hid (Below w.heap.size w w9) := bl_trans (bl_alloc (bl_a _) _) hb9
  clear hq9 hb9
  go_wp2_with fail
  go_ret
  exact Tells.of HE.out HB9.out

end Go.Proofs.Ytpgbhkkdbkecoaa

/- TreP7 -/
namespace Go.Proofs.Ytpgbhkkdbkecoaa
open Go.RowKit Go.Deep
set_option maxRecDepth 100000


set_option maxHeartbeats 4000000 in
theorem hasOwnE_7 (d : EN) (w : World) (hkv : d.k = 7) (hv : BsF 0 w d.v) (ht : BsF 0 w d.t.sl) (_hf : d.t.t.fits) (hn : d.n ≤ 1048576) : Calls Try.prog 89 #[.agg #[.int .i64 d.k, .int .i64 d.op, .slice d.v.a d.v.len d.v.cap, .int .i64 d.t.t.k, .slice d.t.t.a d.t.t.len d.t.t.cap, .int .i64 d.t.t.n, .int .i64 d.t.t.s, .slice d.ka d.n d.kc]] w (Tells (nodeOk d) w) := by
  have KC := fun W => kidCount_any 7 W
  have e1 : kLo 7 = 1 := by decide
  have e2 : kHi 7 = 1 := by decide
  rw [e1, e2] at KC
  clear e1 e2
  have WI := fun W => within_any (d.n : Int) 1 1 W
  have HIB : Hid (∀ W, Below w.heap.size w W → Calls Try.prog 107 #[.agg #[.int .i64 7, .int .i64 d.op, .slice d.v.a d.v.len d.v.cap, .int .i64 d.t.t.k, .slice d.t.t.a d.t.t.len d.t.t.cap, .int .i64 d.t.t.n, .int .i64 d.t.t.s, .slice d.ka d.n d.kc]] W (Tells (BareN ⟨7, d.op, d.v, d.t, d.ka, d.kc, d.n⟩) W)) := fun W hb => isBare_any ⟨7, d.op, d.v, d.t, d.ka, d.kc, d.n⟩ W (hv.upper (Upper.of_below hb)) (ht.upper (Upper.of_below hb))
  have HKO : Hid (kOk d.k d.n ↔ ((1 : Int) ≤ (d.n : Int) ∧ (d.n : Int) ≤ 1)) := (show (_ ↔ _) by rw [hkv]; unfold kOk; omega)
  have HKV : Hid (d.k = 7) := hkv
  rw [hkv]
  clear hv ht hkv
  go_enter Try.func89, Try.ntmps89
  go_wp2_with fail
  refine (KC _).mono ?_
  rintro e w1 ⟨rfl, rfl⟩
  clear KC
  go_wp2_with fail
  refine (WI _).mono ?_
  rintro e w1 ⟨rfl, rfl⟩
  clear WI
  by_cases hkn : (1 : Int) ≤ (d.n : Int) ∧ (d.n : Int) ≤ 1
  rotate_left
  · have hw2 : (decide ((1 : Int) ≤ (d.n : Int)) && decide ((d.n : Int) ≤ 1)) = false := by simp; omega
    have HNO : Hid (¬ nodeOk d) := fun hh => hkn (HKO.out.1 hh.1)
    rw [hw2]
    clear hkn hw2
    go_wp2_with fail
    go_ret
    exact Tells.no HNO.out (bl_a _)
  have hw2 : (decide ((1 : Int) ≤ (d.n : Int)) && decide ((d.n : Int) ≤ 1)) = true := by simp; omega
  have HK : Hid (kOk d.k d.n) := HKO.out.2 hkn
  rw [hw2]
  clear hkn hw2 HKO
  go_wp2_with fail
  refine (HIB.out _ (bl_alloc (bl_a _) _)).mono ?_
  rintro e w9 ⟨q9, rfl, hq9, hb9⟩
  have HE : Hid (q9 = true ↔ nodeOk d) := (show (q9 = true ↔ nodeOk d) from hq9.trans ⟨fun h => ⟨HK.out, fun h2 => absurd h2 (by rw [HKV.out]; decide), fun _ => h.2.1, fun h2 => absurd h2 (by rw [HKV.out]; decide), fun _ => h.2.2, ⟨by rw [h.1]; decide, by rw [h.1]; decide⟩, fun _ => h.1⟩, fun h => BareN.mk (h.2.2.2.2.2.2 (by rw [HKV.out]; decide)) (h.2.2.1 (by rw [HKV.out]; decide)) (h.2.2.2.2.1 (by rw [HKV.out]; decide))⟩)
  have HB9 : Hid (Below w.heap.size w w9) := bl_trans (bl_alloc (bl_a _) _) hb9
  clear hq9 hb9
  go_wp2_with fail
  go_ret
  exact Tells.of HE.out HB9.out

end Go.Proofs.Ytpgbhkkdbkecoaa

/- TreQ -/
namespace Go.Proofs.Ytpgbhkkdbkecoaa
open Go.RowKit Go.Deep
set_option maxRecDepth 100000

set_option maxHeartbeats 4000000 in
theorem hasOwnE_x (d : EN) (w : World) (n0 : d.k ≠ 0) (n1 : d.k ≠ 1) (n2 : d.k ≠ 2) (n3 : d.k ≠ 3) (n4 : d.k ≠ 4) (n5 : d.k ≠ 5) (n6 : d.k ≠ 6) (n7 : d.k ≠ 7) : Calls Try.prog 89 #[.agg #[.int .i64 d.k, .int .i64 d.op, .slice d.v.a d.v.len d.v.cap, .int .i64 d.t.t.k, .slice d.t.t.a d.t.t.len d.t.t.cap, .int .i64 d.t.t.n, .int .i64 d.t.t.s, .slice d.ka d.n d.kc]] w (Tells (nodeOk d) w) := by
  have KC := fun W => kidCount_any d.k W
  have WI := fun W => within_any (d.n : Int) (kLo d.k) (kHi d.k) W
  have HNO : Hid (¬ nodeOk d) := fun hh => by have h := hh.1; unfold kOk at h; omega
  have m0 : (d.k == 0) = false := by simp [n0]
  have m1 : (d.k == 1) = false := by simp [n1]
  have m2 : (d.k == 2) = false := by simp [n2]
  have m3 : (d.k == 3) = false := by simp [n3]
  have m4 : (d.k == 4) = false := by simp [n4]
  have m5 : (d.k == 5) = false := by simp [n5]
  have m6 : (d.k == 6) = false := by simp [n6]
  have m7 : (d.k == 7) = false := by simp [n7]
  clear n0
  clear n1
  clear n2
  clear n3
  clear n4
  clear n5
  clear n6
  clear n7
  obtain ⟨lo, hlo⟩ : ∃ lo, lo = kLo d.k := ⟨_, rfl⟩
  obtain ⟨hi, hhi⟩ : ∃ hi, hi = kHi d.k := ⟨_, rfl⟩
  rw [← hlo, ← hhi] at KC WI
  clear hlo hhi
  obtain ⟨q, hq⟩ : ∃ q, q = (decide (lo ≤ (d.n : Int)) && decide ((d.n : Int) ≤ hi)) := ⟨_, rfl⟩
  rw [← hq] at WI
  clear hq
  go_enter Try.func89, Try.ntmps89
  go_wp2_with fail
  refine (KC _).mono ?_
  rintro e w1 ⟨rfl, rfl⟩
  clear KC
  go_wp2_with fail
  refine (WI _).mono ?_
  rintro e w1 ⟨rfl, rfl⟩
  clear WI
  cases q with
  | false =>
    go_wp2_with fail
    go_ret
    exact Tells.no HNO.out (bl_a _)
  | true =>
    go_wp2_with fail
    go_ret
    exact Tells.no HNO.out (bl_alloc (bl_a _) _)
theorem hasOwnE_any (d : EN) (w : World) (hv : BsF 0 w d.v) (ht : BsF 0 w d.t.sl) (hf : d.t.t.fits) (hn : d.n ≤ 1048576) : Calls Try.prog 89 #[.agg #[.int .i64 d.k, .int .i64 d.op, .slice d.v.a d.v.len d.v.cap, .int .i64 d.t.t.k, .slice d.t.t.a d.t.t.len d.t.t.cap, .int .i64 d.t.t.n, .int .i64 d.t.t.s, .slice d.ka d.n d.kc]] w (Tells (nodeOk d) w) := by
  by_cases n0 : d.k = 0
  · exact hasOwnE_0 d w n0 hv ht hf hn
  by_cases n1 : d.k = 1
  · exact hasOwnE_1 d w n1 hv ht hf hn
  by_cases n2 : d.k = 2
  · exact hasOwnE_2 d w n2 hv ht hf hn
  by_cases n3 : d.k = 3
  · exact hasOwnE_3 d w n3 hv ht hf hn
  by_cases n4 : d.k = 4
  · exact hasOwnE_4 d w n4 hv ht hf hn
  by_cases n5 : d.k = 5
  · exact hasOwnE_5 d w n5 hv ht hf hn
  by_cases n6 : d.k = 6
  · exact hasOwnE_6 d w n6 hv ht hf hn
  by_cases n7 : d.k = 7
  · exact hasOwnE_7 d w n7 hv ht hf hn
  exact hasOwnE_x d w n0 n1 n2 n3 n4 n5 n6 n7
end Go.Proofs.Ytpgbhkkdbkecoaa
