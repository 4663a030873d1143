import Derived.Test.YthljoojcpbignaaGreatDoorMk39
namespace Go.Proofs.YthljoojcpbignaaGreatDoor
open Go.RowKit Go.Deep
set_option maxHeartbeats 40000000
set_option maxRecDepth 100000
theorem indexFn_any (a : Option Addr) (n cap : Nat) (f : Nat → SE) (Q : Nat → Prop) (w : World) (hn : n ≤ 1048576) (hR : KRow 0 w 3 a n (fun i => (f i).cells)) (HNP : ∀ i, i < n → ∀ W, Bl w W → Calls Tryz.prog 145 #[.agg (f i).ar] W (Tells (Q i) W)) :
 Calls Tryz.prog 146 #[.slice a n cap, .func (.func 145) #[] #[]] w (IdxAns (¬ (∃ i, i < n ∧ Q i)) w) := by
 try unfold SE.ar
 have HNP := iH HNP
 obtain ⟨P, hP⟩ : ∃ P : Prop, P = (∃ i, i < n ∧ Q i) := ⟨_, rfl⟩
 have HPE := iH (show (P ↔ _) by rw [hP])
 rw [← hP]
 clear hP
 by_cases hn1 : n = 0
 · subst hn1
   clear hR HNP
   have HNI : Hd (¬ P) := fun hh => by
    obtain ⟨i, hi, _⟩ := HPE.o.1 hh
    omega
   go_in
   go_wp2_with fail
   go_loopw [8] (fun i wr => i = .int .i64 0 ∧ Hd (Bl w wr)) (fun _ _ => 0)
   case atStart => exact ⟨rfl, Below.refl _ _⟩
   obtain ⟨rfl, HB⟩ := hrel
   go_wp2_with fail
   go_ret
   exact IdxAns.of ⟨fun h => absurd h (by decide), fun h => absurd HNI.o h⟩ HB.o
 obtain ⟨b, off, rfl, _, hbk, hck⟩ := hR.resolve_left hn1
 have HCK := iH hck
 clear hck hR hn1
 go_in
 go_wp2_with fail
 go_loopw [8] (fun i wr => ∃ k : Nat, k ≤ n ∧ i = .int .i64 k ∧ Hd (∀ j, j < k → ¬ Q j) ∧ Hd (Bl w wr)) (fun i _ => n - (intOf i).toNat)
 case atStart => exact ⟨0, nZ, rfl, fun j hj => absurd hj nN, Below.refl _ _⟩
 obtain ⟨k, hk, rfl, HOK, HB⟩ := hrel
 by_cases hlk : k < n
 rotate_left
 · obtain rfl : k = n := by omega
   have hlkz : ¬ (k : Int) < (k : Int) := by omega
   have HNI : Hd (¬ P) := fun hh => by
    obtain ⟨i, hi, hq⟩ := HPE.o.1 hh
    exact HOK.o i hi hq
   go_wp2_with fail
   go_ret
   exact IdxAns.of ⟨fun h => absurd h (by decide), fun h => absurd HNI.o h⟩ HB.o
 have hlkz : (k : Int) < (n : Int) := by omega
 have hcx : wr.rangeAt b (off + k * 3) (f k).cl := fun c u hu => (HB.o.cell (p := ⟨b, off + k * 3 + c, none⟩) hbk).trans (HCK.o k hlk c u hu)
 go_wp2_with (with_reducible refine wpq_at ?_; refine wpList_load_mid rfl 105 _ rfl b (off + k * 3) rfl (f k).cl _ hcx Tryz.underlying105 rfl (by kernel_rfl) ?_; try simp only [Act.put, sA, zA, cA])
 refine (HNP.o k hlk wr HB.o).mono ?_
 rintro e w1 ⟨q1, rfl, hq1, hb1⟩
 have HB1 := iH (bl_trans HB.o hb1)
 clear hb1 hcx HB
 cases q1 with
 | true =>
  have HY := iH (HPE.o.2 ⟨k, hlk, hq1.1 rfl⟩)
  clear hq1
  go_wp2_with fail
  go_ret
  exact IdxAns.of ⟨fun _ h => h HY.o, fun _ => by omega⟩ HB1.o
 | false =>
  have HNQ : Hd (¬ Q k) := fun hh => by have h := hq1.2 hh; cases h
  clear hq1
  go_wp2_with fail
  go_roundw
  case rel =>
   refine ⟨k + 1, by omega, by go_num, fun j hj => ?_, HB1⟩
   by_cases e : j = k
   · subst e
     exact HNQ.o
   exact HOK.o j (by omega)
  case measure => simp [intOf]; omega
theorem containsFn_any (a : Option Addr) (n cap : Nat) (f : Nat → SE) (Q : Nat → Prop) (w : World) (hn : n ≤ 1048576) (hR : KRow 0 w 3 a n (fun i => (f i).cells)) (HNP : ∀ i, i < n → ∀ W, Bl w W → Calls Tryz.prog 145 #[.agg (f i).ar] W (Tells (Q i) W)) :
 Calls Tryz.prog 111 #[.slice a n cap, .func (.func 145) #[] #[]] w (Tells (∃ i, i < n ∧ Q i) w) := by
 try unfold SE.ar
 have IX := indexFn_any a n cap f Q w hn hR HNP
 obtain ⟨P, hP⟩ : ∃ P : Prop, P = (∃ i, i < n ∧ Q i) := ⟨_, rfl⟩
 rw [← hP] at IX ⊢
 clear hP hR hn HNP
 go_in
 go_wp2_with fail
 refine IX.mono ?_
 rintro e w1 ⟨v, rfl, hv, hb⟩
 have HV := iH hv
 have HB := iH hb
 clear IX hv hb
 go_wp2_with fail
 go_ret
 refine Tells.of ?_ HB.o
 rw [← Classical.not_not (a := P), ← HV.o]
 simp
theorem indexPlain_any (a : Option Addr) (n cap : Nat) (f : Nat → SE) (Q : Nat → Prop) (c : Nat) (w : World) (hn : n ≤ 1048576) (hR : KRow 0 w 3 a n (fun i => (f i).cells)) (HNP : ∀ i, i < n → ∀ W, Bl w W → Calls Tryz.prog 112 #[.agg (f i).ar, .pointer (some ⟨c, 0, none⟩)] W (Tells (Q i) W)) :
 Calls Tryz.prog 146 #[.slice a n cap, .func (.func 112) #[] #[.pointer (some ⟨c, 0, none⟩)]] w (IdxAns (¬ (∃ i, i < n ∧ Q i)) w) := by
 try unfold SE.ar
 have HNP := iH HNP
 obtain ⟨P, hP⟩ : ∃ P : Prop, P = (∃ i, i < n ∧ Q i) := ⟨_, rfl⟩
 have HPE := iH (show (P ↔ _) by rw [hP])
 rw [← hP]
 clear hP
 by_cases hn1 : n = 0
 · subst hn1
   clear hR HNP
   have HNI : Hd (¬ P) := fun hh => by
    obtain ⟨i, hi, _⟩ := HPE.o.1 hh
    omega
   go_in
   go_wp2_with fail
   go_loopw [8] (fun i wr => i = .int .i64 0 ∧ Hd (Bl w wr)) (fun _ _ => 0)
   case atStart => exact ⟨rfl, Below.refl _ _⟩
   obtain ⟨rfl, HB⟩ := hrel
   go_wp2_with fail
   go_ret
   exact IdxAns.of ⟨fun h => absurd h (by decide), fun h => absurd HNI.o h⟩ HB.o
 obtain ⟨b, off, rfl, _, hbk, hck⟩ := hR.resolve_left hn1
 have HCK := iH hck
 clear hck hR hn1
 go_in
 go_wp2_with fail
 go_loopw [8] (fun i wr => ∃ k : Nat, k ≤ n ∧ i = .int .i64 k ∧ Hd (∀ j, j < k → ¬ Q j) ∧ Hd (Bl w wr)) (fun i _ => n - (intOf i).toNat)
 case atStart => exact ⟨0, nZ, rfl, fun j hj => absurd hj nN, Below.refl _ _⟩
 obtain ⟨k, hk, rfl, HOK, HB⟩ := hrel
 by_cases hlk : k < n
 rotate_left
 · obtain rfl : k = n := by omega
   have hlkz : ¬ (k : Int) < (k : Int) := by omega
   have HNI : Hd (¬ P) := fun hh => by
    obtain ⟨i, hi, hq⟩ := HPE.o.1 hh
    exact HOK.o i hi hq
   go_wp2_with fail
   go_ret
   exact IdxAns.of ⟨fun h => absurd h (by decide), fun h => absurd HNI.o h⟩ HB.o
 have hlkz : (k : Int) < (n : Int) := by omega
 have hcx : wr.rangeAt b (off + k * 3) (f k).cl := fun c u hu => (HB.o.cell (p := ⟨b, off + k * 3 + c, none⟩) hbk).trans (HCK.o k hlk c u hu)
 go_wp2_with (with_reducible refine wpq_at ?_; refine wpList_load_mid rfl 105 _ rfl b (off + k * 3) rfl (f k).cl _ hcx Tryz.underlying105 rfl (by kernel_rfl) ?_; try simp only [Act.put, sA, zA, cA])
 refine (HNP.o k hlk wr HB.o).mono ?_
 rintro e w1 ⟨q1, rfl, hq1, hb1⟩
 have HB1 := iH (bl_trans HB.o hb1)
 clear hb1 hcx HB
 cases q1 with
 | true =>
  have HY := iH (HPE.o.2 ⟨k, hlk, hq1.1 rfl⟩)
  clear hq1
  go_wp2_with fail
  go_ret
  exact IdxAns.of ⟨fun _ h => h HY.o, fun _ => by omega⟩ HB1.o
 | false =>
  have HNQ : Hd (¬ Q k) := fun hh => by have h := hq1.2 hh; cases h
  clear hq1
  go_wp2_with fail
  go_roundw
  case rel =>
   refine ⟨k + 1, by omega, by go_num, fun j hj => ?_, HB1⟩
   by_cases e : j = k
   · subst e
     exact HNQ.o
   exact HOK.o j (by omega)
  case measure => simp [intOf]; omega
theorem containsPlain_any (a : Option Addr) (n cap : Nat) (f : Nat → SE) (Q : Nat → Prop) (c : Nat) (w : World) (hn : n ≤ 1048576) (hR : KRow 0 w 3 a n (fun i => (f i).cells)) (HNP : ∀ i, i < n → ∀ W, Bl w W → Calls Tryz.prog 112 #[.agg (f i).ar, .pointer (some ⟨c, 0, none⟩)] W (Tells (Q i) W)) :
 Calls Tryz.prog 111 #[.slice a n cap, .func (.func 112) #[] #[.pointer (some ⟨c, 0, none⟩)]] w (Tells (∃ i, i < n ∧ Q i) w) := by
 try unfold SE.ar
 have IX := indexPlain_any a n cap f Q c w hn hR HNP
 obtain ⟨P, hP⟩ : ∃ P : Prop, P = (∃ i, i < n ∧ Q i) := ⟨_, rfl⟩
 rw [← hP] at IX ⊢
 clear hP hR hn HNP
 go_in
 go_wp2_with fail
 refine IX.mono ?_
 rintro e w1 ⟨v, rfl, hv, hb⟩
 have HV := iH hv
 have HB := iH hb
 clear IX hv hb
 go_wp2_with fail
 go_ret
 refine Tells.of ?_ HB.o
 rw [← Classical.not_not (a := P), ← HV.o]
 simp
theorem indexKey_any (a : Option Addr) (n cap : Nat) (f : Nat → KY) (Q : Nat → Prop) (c : Nat) (w : World) (hn : n ≤ 1048576) (hR : KRow 0 w 2 a n (fun i => (f i).cells)) (HNP : ∀ i, i < n → ∀ W, Bl w W → Calls Tryz.prog 114 #[.agg #[.slice (f i).v.a (f i).v.len (f i).v.cap, .bool (f i).down], .pointer (some ⟨c, 0, none⟩)] W (Tells (Q i) W)) :
 Calls Tryz.prog 147 #[.slice a n cap, .func (.func 114) #[] #[.pointer (some ⟨c, 0, none⟩)]] w (IdxAns (¬ (∃ i, i < n ∧ Q i)) w) := by
 have HNP := iH HNP
 obtain ⟨P, hP⟩ : ∃ P : Prop, P = (∃ i, i < n ∧ Q i) := ⟨_, rfl⟩
 have HPE := iH (show (P ↔ _) by rw [hP])
 rw [← hP]
 clear hP
 by_cases hn1 : n = 0
 · subst hn1
   clear hR HNP
   have HNI : Hd (¬ P) := fun hh => by
    obtain ⟨i, hi, _⟩ := HPE.o.1 hh
    omega
   go_in
   go_wp2_with fail
   go_loopw [8] (fun i wr => i = .int .i64 0 ∧ Hd (Bl w wr)) (fun _ _ => 0)
   case atStart => exact ⟨rfl, Below.refl _ _⟩
   obtain ⟨rfl, HB⟩ := hrel
   go_wp2_with fail
   go_ret
   exact IdxAns.of ⟨fun h => absurd h (by decide), fun h => absurd HNI.o h⟩ HB.o
 obtain ⟨b, off, rfl, _, hbk, hck⟩ := hR.resolve_left hn1
 have HCK := iH hck
 clear hck hR hn1
 go_in
 go_wp2_with fail
 go_loopw [8] (fun i wr => ∃ k : Nat, k ≤ n ∧ i = .int .i64 k ∧ Hd (∀ j, j < k → ¬ Q j) ∧ Hd (Bl w wr)) (fun i _ => n - (intOf i).toNat)
 case atStart => exact ⟨0, nZ, rfl, fun j hj => absurd hj nN, Below.refl _ _⟩
 obtain ⟨k, hk, rfl, HOK, HB⟩ := hrel
 by_cases hlk : k < n
 rotate_left
 · obtain rfl : k = n := by omega
   have hlkz : ¬ (k : Int) < (k : Int) := by omega
   have HNI : Hd (¬ P) := fun hh => by
    obtain ⟨i, hi, hq⟩ := HPE.o.1 hh
    exact HOK.o i hi hq
   go_wp2_with fail
   go_ret
   exact IdxAns.of ⟨fun h => absurd h (by decide), fun h => absurd HNI.o h⟩ HB.o
 have hlkz : (k : Int) < (n : Int) := by omega
 have hcx : wr.rangeAt b (off + k * 2) [.slice (f k).v.a (f k).v.len (f k).v.cap, .bool (f k).down] := fun c u hu => (HB.o.cell (p := ⟨b, off + k * 2 + c, none⟩) hbk).trans (HCK.o k hlk c u hu)
 go_wp2_with (with_reducible refine wpq_at ?_; refine wpList_load_mid rfl 108 _ rfl b (off + k * 2) rfl [.slice (f k).v.a (f k).v.len (f k).v.cap, .bool (f k).down] _ hcx Tryz.underlying108 rfl (by kernel_rfl) ?_; try simp only [Act.put, sA, zA, cA])
 refine (HNP.o k hlk wr HB.o).mono ?_
 rintro e w1 ⟨q1, rfl, hq1, hb1⟩
 have HB1 := iH (bl_trans HB.o hb1)
 clear hb1 hcx HB
 cases q1 with
 | true =>
  have HY := iH (HPE.o.2 ⟨k, hlk, hq1.1 rfl⟩)
  clear hq1
  go_wp2_with fail
  go_ret
  exact IdxAns.of ⟨fun _ h => h HY.o, fun _ => by omega⟩ HB1.o
 | false =>
  have HNQ : Hd (¬ Q k) := fun hh => by have h := hq1.2 hh; cases h
  clear hq1
  go_wp2_with fail
  go_roundw
  case rel =>
   refine ⟨k + 1, by omega, by go_num, fun j hj => ?_, HB1⟩
   by_cases e : j = k
   · subst e
     exact HNQ.o
   exact HOK.o j (by omega)
  case measure => simp [intOf]; omega
theorem containsKey_any (a : Option Addr) (n cap : Nat) (f : Nat → KY) (Q : Nat → Prop) (c : Nat) (w : World) (hn : n ≤ 1048576) (hR : KRow 0 w 2 a n (fun i => (f i).cells)) (HNP : ∀ i, i < n → ∀ W, Bl w W → Calls Tryz.prog 114 #[.agg #[.slice (f i).v.a (f i).v.len (f i).v.cap, .bool (f i).down], .pointer (some ⟨c, 0, none⟩)] W (Tells (Q i) W)) :
 Calls Tryz.prog 113 #[.slice a n cap, .func (.func 114) #[] #[.pointer (some ⟨c, 0, none⟩)]] w (Tells (∃ i, i < n ∧ Q i) w) := by
 have IX := indexKey_any a n cap f Q c w hn hR HNP
 obtain ⟨P, hP⟩ : ∃ P : Prop, P = (∃ i, i < n ∧ Q i) := ⟨_, rfl⟩
 rw [← hP] at IX ⊢
 clear hP hR hn HNP
 go_in
 go_wp2_with fail
 refine IX.mono ?_
 rintro e w1 ⟨v, rfl, hv, hb⟩
 have HV := iH hv
 have HB := iH hb
 clear IX hv hb
 go_wp2_with fail
 go_ret
 refine Tells.of ?_ HB.o
 rw [← Classical.not_not (a := P), ← HV.o]
 simp
theorem fnC_any (x : SE) (w : World) : Calls Tryz.prog 145 #[.agg x.ar] w (Tells (x.fn ≠ 0) w) := by
 have HX : Hd (Box (w.alloc (.cells x.ar 105)) w.heap.size x.cells) := Box.new w _ 105 (0, 0)
 have HB : Hd (Bl w (w.alloc (.cells x.ar 105))) := bl_a _
 go_in
 go_upto_region 1 with fail
 generalize (w.alloc (.cells x.ar 105)) = W1 at *
 have y0 := HX.o.2 0 _ rfl
 go_wp2_with fail
 go_ret
 exact Tells.of (by simp) HB.o
theorem plainC_any (x : SE) (v : Value) (L : List SL) (B c : Nat) (w0 w : World) (hx : x.lies 0 w0) (hV : VQ w0 w B c v L) (hl : L.length ≤ 1048576) :
 Calls Tryz.prog 112 #[.agg x.ar, .pointer (some ⟨c, 0, none⟩)] w (Tells (x.fn = 0 ∧ x.v.b ∉ L.map SL.b) w) := by
 try unfold SE.ar
 have HX : Hd (Box (w.alloc (.cells x.ar 105)) w.heap.size x.cells) := Box.new w _ 105 (0, 0)
 have HB : Hd (Bl w (w.alloc (.cells x.ar 105))) := bl_a _
 have HV : Hd (VQ w0 (w.alloc (.cells x.ar 105)) B c v L) := hV.below (bl_a _)
 have HVX := iH hx.2
 obtain ⟨P, hP⟩ : ∃ P : Prop, P = (x.fn = 0 ∧ x.v.b ∉ L.map SL.b) := ⟨_, rfl⟩
 have HPE := iH (show (P ↔ _) by rw [hP])
 rw [← hP]
 clear hP hx hV
 go_in
 go_upto_region 1 with fail
 generalize (w.alloc (.cells x.ar 105)) = W1 at *
 have y0 := HX.o.2 0 _ rfl
 by_cases h : x.fn = 0
 rotate_left
 · have HNO : Hd (¬ P) := fun hh => h (HPE.o.1 hh).1
   have b0 : (x.fn == 0) = false := by simp [h]
   clear h
   go_wp2_with fail
   go_ret
   exact Tells.no HNO.o HB.o
 have HK := iH h
 have b0 : (x.fn == 0) = true := by simp [h]
 have y2 := HX.o.2 2 _ rfl
 have yl := HV.o.cell
 clear h
 go_wp2_with fail
 refine (has_any v L x.v B w0 _ HV.o.vl HV.o.bl HVX.o hl).mono ?_
 rintro e w1 ⟨q1, rfl, hq1, hb1⟩
 have HB1 := iH (bl_trans HB.o hb1)
 clear hb1 HX HB HV y0 y2 yl
 cases q1 with
 | true =>
  have HNO : Hd (¬ P) := fun hh => (HPE.o.1 hh).2 (hq1.1 rfl)
  clear hq1
  go_wp2_with fail
  go_ret
  exact Tells.no HNO.o HB1.o
 | false =>
  have HY := iH (HPE.o.2 ⟨HK.o, fun hh => by have h1 := hq1.2 hh; cases h1⟩)
  clear hq1
  go_wp2_with fail
  go_ret
  exact Tells.yes HY.o HB1.o
theorem keyC_any (x : KY) (v : Value) (L : List SL) (B c : Nat) (w0 w : World) (hx : x.lies 0 w0) (hV : VL w0 w B v L) (hc : w.cell? ⟨c, 0, none⟩ = some v) (hcl : c < w.heap.size) (hw : Bl w0 w) (hl : L.length ≤ 1048576) :
 Calls Tryz.prog 114 #[.agg #[.slice x.v.a x.v.len x.v.cap, .bool x.down], .pointer (some ⟨c, 0, none⟩)] w (Tells (x.v.b ∉ L.map SL.b) w) := by
 have HX : Hd (Box (w.alloc (.cells #[.slice x.v.a x.v.len x.v.cap, .bool x.down] 108)) w.heap.size x.cells) := Box.new w _ 108 (0, 0)
 have HB : Hd (Bl w (w.alloc (.cells #[.slice x.v.a x.v.len x.v.cap, .bool x.down] 108))) := bl_a _
 have HV : Hd (VL w0 (w.alloc (.cells #[.slice x.v.a x.v.len x.v.cap, .bool x.down] 108)) B v L) := hV.below (bl_a _)
 have HC := iH (((bl_a _ : Bl w (w.alloc (.cells #[.slice x.v.a x.v.len x.v.cap, .bool x.down] 108))).cell (p := ⟨c, 0, none⟩) hcl).trans hc)
 have HW : Hd (Bl w0 (w.alloc (.cells #[.slice x.v.a x.v.len x.v.cap, .bool x.down] 108))) := hw.trans ((bl_a _).mono hw.size)
 have HVX : Hd (BsF 0 w0 x.v) := hx
 obtain ⟨P, hP⟩ : ∃ P : Prop, P = (x.v.b ∉ L.map SL.b) := ⟨_, rfl⟩
 have HPE := iH (show (P ↔ _) by rw [hP])
 rw [← hP]
 clear hP hx hV hc hw
 go_in
 go_upto_region 1 with fail
 generalize (w.alloc (.cells #[.slice x.v.a x.v.len x.v.cap, .bool x.down] 108)) = W1 at *
 have y0 := HX.o.2 0 _ rfl
 have yl := HC.o
 go_wp2_with fail
 refine (has_any v L x.v B w0 _ HV.o HW.o HVX.o hl).mono ?_
 rintro e w1 ⟨q1, rfl, hq1, hb1⟩
 have HB1 := iH (bl_trans HB.o hb1)
 clear hb1 HX HB HV HC y0 yl
 cases q1 with
 | true =>
  have HNO : Hd (¬ P) := fun hh => (HPE.o.1 hh) (hq1.1 rfl)
  clear hq1
  go_wp2_with fail
  go_ret
  exact Tells.no HNO.o HB1.o
 | false =>
  have HY := iH (HPE.o.2 fun hh => by have h1 := hq1.2 hh; cases h1)
  clear hq1
  go_wp2_with fail
  go_ret
  exact Tells.yes HY.o HB1.o
theorem isGrouped_any (x : QY) (w : World) (hx : x.lies 0 w) : Calls Tryz.prog 110 #[.agg x.ar] w (Tells (isGr x) w) := by
 try unfold QY.ar
 have HCT := iH (fun W (hb : Bl w W) => containsFn_any x.sa x.sn x.sc x.sel _ W hx.s.2.2 (hx.s.1.upper (uB hb)) fun i _ W' _ => fnC_any (x.sel i) W')
 have HX := iH (Box.new w x.ar 34 (0, 0))
 have HB : Hd (Bl w (w.alloc (.cells x.ar 34))) := bl_a _
 clear hx
 obtain ⟨P, hP⟩ : ∃ P : Prop, P = isGr x := ⟨_, rfl⟩
 have HPE := iH (show (P ↔ _) by rw [hP])
 rw [← hP]
 clear hP
 go_in
 go_upto_region 1 with fail
 generalize (w.alloc (.cells x.ar 34)) = W1 at *
 have y4 := HX.o.2 4 _ rfl
 by_cases h : 0 < x.gn
 · have HY := iH (HPE.o.2 (.inl h))
   have hz : (x.gn : Int) > 0 := by omega
   clear h
   go_wp2_with fail
   go_ret
   exact Tells.yes HY.o HB.o
 have HG := iH h
 have hz : ¬ (x.gn : Int) > 0 := by omega
 have y2 := HX.o.2 2 _ rfl
 clear h
 go_wp2_with fail
 refine (HCT.o _ HB.o).mono ?_
 rintro e w1 ⟨q1, rfl, hq1, hb1⟩
 have HB1 := iH (bl_trans HB.o hb1)
 have HQ := iH (show (q1 = true ↔ P) from hq1.trans ⟨fun h => HPE.o.2 (.inr h), fun h => (HPE.o.1 h).resolve_left HG.o⟩)
 clear hb1 hq1 HX HB y4 y2
 go_wp2_with fail
 go_ret
 exact Tells.of HQ.o HB1.o
def grpL (x : QY) : Nat → List (List Int)
 | 0 => []
 | k + 1 => grpL x k ++ [(x.grp k).b]
theorem grpL_len (x : QY) (k : Nat) : (grpL x k).length = k := by
 induction k with
 | zero => rfl
 | succ k ih => simp [grpL, ih]
theorem grpL_mem (x : QY) (k : Nat) (b : List Int) : b ∈ grpL x k ↔ inG x k b := by
 induction k with
 | zero => exact ⟨fun h => (by cases h), fun ⟨j, hj, _⟩ => absurd hj nN⟩
 | succ k ih =>
  show b ∈ grpL x k ++ [(x.grp k).b] ↔ _
  rw [List.mem_append, ih]
  constructor
  · rintro (⟨j, hj, e⟩ | h)
    · exact ⟨j, by omega, e⟩
    exact ⟨k, by omega, (List.mem_singleton.1 h).symm⟩
  rintro ⟨j, hj, e⟩
  by_cases h : j = k
  · subst h
    exact .inr (List.mem_singleton.2 e.symm)
  exact .inl ⟨j, by omega, e⟩
def GrpA (body : List (List Int)) (x : QY) : Prop := x.gn ≤ 4 ∧ (∀ i, i < x.gn → (x.grp i).b ∈ body ∧ ¬ inG x i (x.grp i).b) ∧ (isGr x → x.sn ≠ 0 ∧ ∀ i, i < x.sn → (x.sel i).fn = 0 → inG x x.gn (sV x i))
theorem qGroupOk_any (x : QY) (vb : Value) (Lb : List SL) (body : List (List Int)) (B : Nat) (w0 w : World) (hx : x.lies 0 w0) (hV : VL w0 w B vb Lb) (hw : Bl w0 w) (hbd : Lb.map SL.b = body) (hl : Lb.length ≤ 1048576) (hN : ∀ v ∈ body, nameOk v = true) :
 Calls Tryz.prog 74 #[.agg x.ar, vb] w (Tells (GrpA body x) w) := by
 try unfold QY.ar
 have HHas : Hd (∀ i, i < x.gn → ∀ W, Bl w W → Cl 71 #[vb, .slice (x.grp i).a (x.grp i).len (x.grp i).cap] W (Tells ((x.grp i).b ∈ body) W)) := fun i hi W hb => by
  rw [← hbd]
  exact has_any vb Lb (x.grp i) B w0 W (hV.below hb) (hw.trans (hb.mono hw.size)) (hx.g.2.1 i hi) hl
 have HIG := iH (fun W (hb : Bl w W) => isGrouped_any x W (hx.upper (uB (hw.trans (hb.mono hw.size)))))
 have HCT := iH (fun W v L g (hVq : VQ w0 W g g v L) (hll : L.length ≤ 1048576) => containsPlain_any x.sa x.sn x.sc x.sel _ g W hx.s.2.2 (hx.s.1.upper (uB hVq.bl)) fun i hi W' hb => plainC_any (x.sel i) v L g g w0 W' (hx.s.2.1 i hi) (hVq.below hb) hll)
 have HR := iH hx.g.1
 have HVX : Hd (∀ i, i < x.gn → BsF 0 w0 (x.grp i)) := fun i hi => hx.g.2.1 i hi
 have HNM := iH hN
 have HX := iH (Box.new w x.ar 34 (0, 0))
 have HB : Hd (Bl w (w.alloc (.cells x.ar 34))) := bl_a _
 have HW0 : Hd (Bl w0 (w.alloc (.cells x.ar 34))) := hw.trans ((bl_a _).mono hw.size)
 obtain ⟨P, hP⟩ : ∃ P : Prop, P = GrpA body x := ⟨_, rfl⟩
 have HPE := iH (show (P ↔ _) by rw [hP])
 rw [← hP]
 clear hP hx hV hw hbd hl hN
 go_in
 go_upto_region 1 with fail
 generalize (w.alloc (.cells x.ar 34)) = W1 at *
 have y4 := HX.o.2 4 _ rfl
 by_cases h4 : x.gn ≤ 4
 rotate_left
 · have HNO : Hd (¬ P) := fun hh => h4 (HPE.o.1 hh).1
   have h4z : (x.gn : Int) > 4 := by omega
   clear h4
   go_wp2_with fail
   go_ret
   exact Tells.no HNO.o HB.o
 have h4z : ¬ (x.gn : Int) > 4 := by omega
 have HV0 : Hd (VQ w0 (W1.alloc (.cells #[.slice none 0 0] 55)) W1.heap.size W1.heap.size (.slice none 0 0) []) := vq_nw HW0.o _
 have HB2 : Hd (Bl W1 (W1.alloc (.cells #[.slice none 0 0] 55))) := bl_a _
 have HX2 : Hd (Box (W1.alloc (.cells #[.slice none 0 0] 55)) w.heap.size x.cl) := HX.o.below (bl_a _)
 have y4b := HX2.o.2 4 _ rfl
 go_wp2_with fail
 clear y4 y4b HX2
 go_loopw [15] (fun i wr => ∃ (k : Nat) (v' : Value) (L' : List SL), k ≤ x.gn ∧ i = .int .i64 k ∧ Hd (L'.map SL.b = grpL x k) ∧ Hd (VQ w0 wr W1.heap.size W1.heap.size v' L') ∧ Hd (Bl W1 wr) ∧ Hd (∀ j, j < k → (x.grp j).b ∈ body ∧ ¬ inG x j (x.grp j).b)) (fun i _ => x.gn - (intOf i).toNat)
 case atStart => exact ⟨0, _, [], nZ, rfl, rfl, HV0, HB2, fun j hj => absurd hj nN⟩
 clear HV0 HB2
 obtain ⟨k, v', L', hk, rfl, HRr, HVr, HBr, HOr⟩ := hrel
 have HBw := iH (bl_trans HB.o HBr.o)
 have HLl : Hd (L'.length ≤ 4) := (show _ ≤ _ by have h2 := congrArg List.length HRr.o; rw [List.length_map, grpL_len] at h2; omega)
 by_cases hlk : k < x.gn
 rotate_left
 · obtain rfl : k = x.gn := by omega
   have hlkz : ¬ (x.gn : Int) < (x.gn : Int) := by omega
   have HXr := iH (HX.o.below HBr.o)
   have lr := HXr.o.range 0 x.cl rfl
   go_wp2_with (with_reducible refine wpq_at ?_; refine wpList_load_mid rfl 34 _ rfl w.heap.size 0 rfl x.cl _ lr Tryz.underlying34 rfl (by kernel_rfl) ?_; try simp only [Act.put, sA, zA, cA])
   refine (HIG.o _ HBw.o).mono ?_
   rintro e w1 ⟨q1, rfl, hq1, hb1⟩
   have HX1 := iH (HXr.o.below hb1)
   have HB1 := iH (bl_trans HBw.o hb1)
   have HV1 := iH (HVr.o.below hb1)
   clear hb1 HXr HVr HBr HBw lr HX HB
   cases q1
   · have HY := iH (HPE.o.2 ⟨h4, HOr.o, fun hh => by have h1 := hq1.2 hh; cases h1⟩)
     clear hq1
     go_wp2_with fail
     go_ret
     exact Tells.yes HY.o HB1.o
   have HG := iH (hq1.1 rfl)
   have y2 := HX1.o.2 2 _ rfl
   clear hq1
   by_cases hs : x.sn = 0
   · have HNO : Hd (¬ P) := fun hh => ((HPE.o.1 hh).2.2 HG.o).1 hs
     have hsz : ¬ (x.sn : Int) > 0 := by omega
     clear hs
     go_wp2_with fail
     go_ret
     exact Tells.no HNO.o HB1.o
   have HSN := iH hs
   have hsz : (x.sn : Int) > 0 := by omega
   clear hs
   go_wp2_with fail
   refine (HCT.o _ v' L' W1.heap.size HV1.o (by have := HLl.o; omega)).mono ?_
   rintro e w3 ⟨q3, rfl, hq3, hb3⟩
   have HB3 := iH (bl_trans HB1.o hb3)
   clear hb3 HX1 HB1 HV1 y2
   cases q3 with
   | true =>
    have HNO : Hd (¬ P) := fun hh => by
     obtain ⟨i, hi, h0, hm⟩ := hq3.1 rfl
     exact hm (by rw [HRr.o, grpL_mem]; exact ((HPE.o.1 hh).2.2 HG.o).2 i hi h0)
    clear hq3
    go_wp2_with fail
    go_ret
    exact Tells.no HNO.o HB3.o
   | false =>
    have HY : Hd P := HPE.o.2 ⟨h4, HOr.o, fun _ => ⟨HSN.o, fun i hi h0 => Classical.byContradiction fun hc => by
     have h1 := hq3.2 ⟨i, hi, h0, fun hm => hc (by rw [HRr.o, grpL_mem] at hm; exact hm)⟩
     cases h1⟩⟩
    clear hq3
    go_wp2_with fail
    go_ret
    exact Tells.yes HY.o HB3.o
 have hlkz : (k : Int) < (x.gn : Int) := by omega
 obtain ⟨b, off, hsa, _, hlt, hck⟩ := HR.o.resolve_left (by omega)
 have y0 : wr.cell? ⟨b, off + k, none⟩ = some (.slice (x.grp k).a (x.grp k).len (x.grp k).cap) := (HVr.o.bl.cell (p := ⟨b, off + k, none⟩) hlt).trans (by have h1 := hck k hlk 0 _ rfl; rwa [Nat.mul_one, Nat.add_zero] at h1)
 rw [hsa]
 have yl := HVr.o.cell
 clear hck hsa
 go_wp2_with fail
 refine (has_any v' L' (x.grp k) W1.heap.size w0 _ HVr.o.vl HVr.o.bl (HVX.o k hlk) (by have := HLl.o; omega)).mono ?_
 rintro e w1 ⟨q1, rfl, hq1, hb1⟩
 have HB1 := iH (bl_trans HBw.o hb1)
 have HV1 := iH (HVr.o.below hb1)
 have HK1 := iH (HBr.o.trans (hb1.mono HBr.o.size))
 clear hb1 HVr HBr HBw y0 yl
 cases q1 with
 | true =>
  have HNO : Hd (¬ P) := fun hh => ((HPE.o.1 hh).2.1 k hlk).2 (by have h1 := hq1.1 rfl; unfold InL at h1; rw [HRr.o, grpL_mem] at h1; exact h1)
  clear hq1
  go_wp2_with fail
  go_ret
  exact Tells.no HNO.o HB1.o
 | false =>
  have HNI : Hd ((x.grp k).b ∉ grpL x k) := fun hh => by
   have h1 := hq1.2 (show _ ∈ _ by rw [HRr.o]; exact hh)
   cases h1
  clear hq1
  go_wp2_with fail
  refine (HHas.o k hlk _ HB1.o).mono ?_
  rintro e w3 ⟨q3, rfl, hq3, hb3⟩
  have HB3 := iH (bl_trans HB1.o hb3)
  have HV3 := iH (HV1.o.below hb3)
  have HK3 := iH (HK1.o.trans (hb3.mono HK1.o.size))
  clear hb3 HV1 HK1 HB1
  cases q3
  · have HNO : Hd (¬ P) := fun hh => by have h1 := hq3.2 ((HPE.o.1 hh).2.1 k hlk).1; cases h1
    clear hq3
    go_wp2_with fail
    go_ret
    exact Tells.no HNO.o HB3.o
  have HIN := iH (hq3.1 rfl)
  clear hq3
  go_wp2_with fail
  refine (add_any v' L' (x.grp k) W1.heap.size W1.heap.size w0 _ HV3.o (HVX.o k hlk) (by have := HLl.o; omega)).mono ?_
  rintro e z5 ⟨v5, L5, rfl, hV5, hR5, hK5⟩
  have HR5 : Hd (L5.map SL.b = grpL x (k + 1)) := (show _ = grpL x k ++ [(x.grp k).b] by
   rw [hR5, HRr.o]
   exact if_neg (fun h => by
    rcases h with h | h
    · exact name_pos (HNM.o _ HIN.o) h
    exact HNI.o h))
  have HV5 := iH hV5
  have HB5 := iH (HK3.o.trans (hK5.low (fun c hc => (HV3.o.vl.lo c hc).1) nR HK3.o.size))
  have HO5 : Hd (∀ j, j < k + 1 → (x.grp j).b ∈ body ∧ ¬ inG x j (x.grp j).b) := fun j hj => by
   by_cases e : j = k
   · subst e
     exact ⟨HIN.o, fun h => HNI.o ((grpL_mem x j _).2 h)⟩
   exact HOr.o j (by omega)
  clear hV5 hR5 hK5 HV3 HB3 HK3
  go_wp2_with fail
  go_roundw
  case rel => exact ⟨k + 1, v5, L5, by omega, by go_num, HR5, HV5, HB5, HO5⟩
  case measure => simp [intOf]; omega
def OrdA (body : List (List Int)) (x : QY) : Prop := x.on ≤ 4 ∧ ∀ i, i < x.on → (x.key i).v.b ∈ (if x.sn = 0 then body else outs x x.sn)
theorem orderOk_any (x : QY) (vb : Value) (Lb : List SL) (body : List (List Int)) (B : Nat) (w0 w : World) (hx : x.lies 0 w0) (hV : VL w0 w B vb Lb) (hw : Bl w0 w) (hbd : Lb.map SL.b = body) (hl : Lb.length ≤ 1048576) (hN : ∀ v ∈ body, nameOk v = true) (hS : SelsA body x) :
 Calls Tryz.prog 75 #[.agg x.ar, vb] w (Tells (OrdA body x) w) := by
 try unfold QY.ar
 have HCT := iH (fun W v L B' g (hVl : VL w0 W B' v L) (hc : W.cell? _ = some v) (hg : g < W.heap.size) (hb : Bl w0 W) (hll : L.length ≤ 1048576) => containsKey_any x.oa x.on x.oc x.key _ g W hx.o.2.2 (hx.o.1.upper (uB hb)) fun i hi W' hb' => keyC_any (x.key i) v L B' g w0 W' (hx.o.2.1 i hi) (hVl.below hb') ((hb'.cell (p := ⟨g, 0, none⟩) hg).trans hc) (Nat.lt_of_lt_of_le hg hb'.size) (hb.trans (hb'.mono hb.size)) hll)
 have HR := iH hx.s.1
 have HVX := iH (fun i (hi : i < x.sn) => (hx.s.2.1 i hi).2)
 have HNM := iH hN
 have HS := iH hS
 have h8 := hS.1
 have HBD := iH hbd
 have HX := iH (Box.new w x.ar 34 (0, 0))
 have HB : Hd (Bl w (w.alloc (.cells x.ar 34))) := bl_a _
 have HV1 : Hd (VL w0 (w.alloc (.cells x.ar 34)) B vb Lb) := hV.below (bl_a _)
 have HW0 : Hd (Bl w0 (w.alloc (.cells x.ar 34))) := hw.trans ((bl_a _).mono hw.size)
 obtain ⟨P, hP⟩ : ∃ P : Prop, P = OrdA body x := ⟨_, rfl⟩
 have HPE := iH (show (P ↔ _) by rw [hP])
 rw [← hP]
 obtain ⟨va, vc, hvb, _⟩ := hV.form
 obtain ⟨vn, hvn⟩ : ∃ vn, vn = Lb.length := ⟨_, rfl⟩
 rw [← hvn] at hvb
 subst hvb
 clear hP hx hV hw hbd hN hS hvn
 go_in
 go_upto_region 1 with fail
 generalize (w.alloc (.cells x.ar 34)) = W1 at *
 by_cases hs : x.sn = 0
 · have HS0 := iH hs
   have hsz : ¬ (x.sn : Int) > 0 := by omega
   have HX2 : Hd (Box (W1.alloc (.cells #[.slice va vn vc] 55)) w.heap.size x.cl) := HX.o.below (bl_a _)
   have HB2 : Hd (Bl w (W1.alloc (.cells #[.slice va vn vc] 55))) := bl_trans HB.o (bl_a _)
   have HW2 : Hd (Bl w0 (W1.alloc (.cells #[.slice va vn vc] 55))) := HW0.o.trans ((bl_a _).mono HW0.o.size)
   have HV2 : Hd (VL w0 (W1.alloc (.cells #[.slice va vn vc] 55)) B (.slice va vn vc) Lb) := HV1.o.below (bl_a _)
   have HC2 : Hd ((W1.alloc (.cells #[.slice va vn vc] 55)).cell? ⟨W1.heap.size, 0, none⟩ = some (.slice va vn vc)) := (show _ = _ by simp [go_sem])
   have HL2 : Hd (W1.heap.size < (W1.alloc (.cells #[.slice va vn vc] 55)).heap.size) := (show _ < _ by simp)
   clear hs
   go_upto_region 2 with fail
   generalize (W1.alloc (.cells #[.slice va vn vc] 55)) = W2 at *
   have y2 := HX2.o.2 2 _ rfl
   have y5 := HX2.o.2 5 _ rfl
   by_cases h4 : x.on ≤ 4
   rotate_left
   · have HNO : Hd (¬ P) := fun hh => h4 (HPE.o.1 hh).1
     have h4z : ¬ (x.on : Int) ≤ 4 := by omega
     clear h4
     go_wp2_with fail
     go_ret
     exact Tells.no HNO.o HB2.o
   have h4z : (x.on : Int) ≤ 4 := by omega
   go_wp2_with fail
   refine (HCT.o W2 _ Lb B W1.heap.size HV2.o HC2.o HL2.o HW2.o hl).mono ?_
   rintro e w3 ⟨q3, rfl, hq3, hb3⟩
   have HB3 := iH (bl_trans HB2.o hb3)
   clear hb3 y5
   cases q3 with
   | true =>
    have HNO : Hd (¬ P) := fun hh => by
     obtain ⟨i, hi, hm⟩ := hq3.1 rfl
     have h1 := (HPE.o.1 hh).2 i hi
     rw [if_pos HS0.o, ← HBD.o] at h1
     exact hm h1
    clear hq3
    go_wp2_with fail
    go_ret
    exact Tells.no HNO.o HB3.o
   | false =>
    have HY : Hd P := HPE.o.2 ⟨h4, fun i hi => Classical.byContradiction fun hc => by
     have h1 := hq3.2 ⟨i, hi, fun hm => hc (by rw [if_pos HS0.o, ← HBD.o]; exact hm)⟩
     cases h1⟩
    clear hq3
    go_wp2_with fail
    go_ret
    exact Tells.yes HY.o HB3.o
 have HSN := iH hs
 have hsz : (x.sn : Int) > 0 := by omega
 have hsd : decide (0 < x.sn) = true := decide_eq_true (by omega)
 have HX2 : Hd (Box (W1.alloc (.cells #[.slice none 0 0] 55)) w.heap.size x.cl) := HX.o.below (bl_a _)
 have HX2s : Hd (Box (W1.alloc (.cells #[.slice va vn vc] 55)) w.heap.size x.cl) := HX.o.below (bl_a _)
 have HV0 : Hd (VQ w0 (W1.alloc (.cells #[.slice none 0 0] 55)) W1.heap.size W1.heap.size (.slice none 0 0) []) := vq_nw HW0.o _
 have HB2 : Hd (Bl W1 (W1.alloc (.cells #[.slice none 0 0] 55))) := bl_a _
 have y2 := HX2s.o.2 2 _ rfl
 have y2n := HX2.o.2 2 _ rfl
 clear hs
 obtain ⟨b, off, hsa, _, hlt, hck⟩ := HR.o.resolve_left HSN.o
 have HCK := iH hck
 have HSA := iH hsa
 clear hck hsa
 go_wp2_with fail
 clear y2 y2n HX2 HX2s
 go_loopw [16] (fun i wr => ∃ (k : Nat) (v' : Value) (L' : List SL), k ≤ x.sn ∧ i = .int .i64 k ∧ Hd (L'.map SL.b = outs x k) ∧ Hd (VQ w0 wr W1.heap.size W1.heap.size v' L') ∧ Hd (Bl W1 wr) ∧ Hd (∀ j, j < k → j < x.sn)) (fun i _ => x.sn - (intOf i).toNat)
 case atStart => exact ⟨0, _, [], nZ, rfl, rfl, HV0, HB2, fun j hj => absurd hj nN⟩
 clear HV0 HB2
 obtain ⟨k, v', L', hk, rfl, HRr, HVr, HBr, _⟩ := hrel
 have HLl : Hd (L'.length ≤ 8) := (show _ ≤ _ by have h2 := congrArg List.length HRr.o; rw [List.length_map, outs_len] at h2; omega)
 by_cases hlk : k < x.sn
 rotate_left
 · obtain rfl : k = x.sn := by omega
   have hlkz : ¬ (x.sn : Int) < (x.sn : Int) := by omega
   have HXr := iH (HX.o.below HBr.o)
   have HBw := iH (bl_trans HB.o HBr.o)
   have y5 := HXr.o.2 5 _ rfl
   by_cases h4 : x.on ≤ 4
   rotate_left
   · have HNO : Hd (¬ P) := fun hh => h4 (HPE.o.1 hh).1
     have h4z : ¬ (x.on : Int) ≤ 4 := by omega
     clear h4
     go_wp2_with fail
     go_ret
     exact Tells.no HNO.o HBw.o
   have h4z : (x.on : Int) ≤ 4 := by omega
   go_wp2_with fail
   refine (HCT.o wr v' L' W1.heap.size W1.heap.size HVr.o.vl HVr.o.cell HVr.o.lt HVr.o.bl (by have := HLl.o; omega)).mono ?_
   rintro e w3 ⟨q3, rfl, hq3, hb3⟩
   have HB3 := iH (bl_trans HBw.o hb3)
   clear hb3 y5
   cases q3 with
   | true =>
    have HNO : Hd (¬ P) := fun hh => by
     obtain ⟨i, hi, hm⟩ := hq3.1 rfl
     have h1 := (HPE.o.1 hh).2 i hi
     rw [if_neg HSN.o, ← HRr.o] at h1
     exact hm h1
    clear hq3
    go_wp2_with fail
    go_ret
    exact Tells.no HNO.o HB3.o
   | false =>
    have HY : Hd P := HPE.o.2 ⟨h4, fun i hi => Classical.byContradiction fun hc => by
     have h1 := hq3.2 ⟨i, hi, fun hm => hc (by rw [if_neg HSN.o, ← HRr.o]; exact hm)⟩
     cases h1⟩
    clear hq3
    go_wp2_with fail
    go_ret
    exact Tells.yes HY.o HB3.o
 have hlkz : (k : Int) < (x.sn : Int) := by omega
 have hcx : wr.rangeAt b (off + k * 3) (x.sel k).cl := fun c u hu => (HVr.o.bl.cell (p := ⟨b, off + k * 3 + c, none⟩) hlt).trans (HCK.o k hlk c u hu)
 have hth := (OB.new wr #[.int .i64 0, .slice none 0 0, .slice none 0 0] 105).there 0 3 (by simp)
 have one1 : ((x.sel k).ar : Array Value).all (·.oneCell') = true := SE.one (x.sel k)
 have HBk : Hd (Bl wr ((wr.alloc (.cells #[.int .i64 0, .slice none 0 0, .slice none 0 0] 105)).setCells wr.heap.size 0 (x.sel k).cl)) := below_sets _ nR _ _ _ (bl_a _)
 have HQ0 : Hd (QS w0 wr W1.heap.size W1.heap.size v' v' L' (x.sel k).cells ((wr.alloc (.cells #[.int .i64 0, .slice none 0 0, .slice none 0 0] 105)).setCells wr.heap.size 0 (x.sel k).cl)) := ⟨HVr.o.below HBk.o, KQ.of_below HBk.o, ((OB.new wr #[.int .i64 0, .slice none 0 0, .slice none 0 0] 105).put (x.sel k).cl 0 (x.sel k).cl (show 0 + 3 ≤ 3 by omega) rfl).box, fun e => by have := (HVr.o.vl.lo _ e).2; omega, HVr.o.lt⟩
 have hsa := HSA.o
 rw [hsa] at *
 clear hsa
 go_wp2_with (first | (with_reducible refine wpq_at ?_; refine wpList_load_mid rfl 105 _ rfl b (off + k * 3) rfl (x.sel k).cl _ hcx Tryz.underlying105 rfl (by kernel_rfl) ?_; try simp only [Act.put, sA, zA, cA]) | (with_reducible refine wpq_at ?_; refine store_stop 105 (.tmp 7) (.tmp 19) rfl ?_))
 change wpList _ _ _ _ _ _
 refine wpList_store_mid rfl 105 _ _ rfl wr.heap.size 0 (x.sel k).ar rfl rfl hth (by kernel_rfl) one1 ?_
 try simp only [Act.put]
 generalize ((wr.alloc (.cells #[.int .i64 0, .slice none 0 0, .slice none 0 0] 105)).setCells wr.heap.size 0 (x.sel k).cl) = W5 at *
 clear hcx hth one1 HBk
 have z2 := HQ0.o.bx.2 2 _ rfl
 go_wp2_with fail
 refine (add_any v' L' (x.sel k).v W1.heap.size W1.heap.size w0 _ HQ0.o.vq (HVX.o k hlk) (by have := HLl.o; omega)).mono ?_
 rintro e z5 ⟨v5, L5, rfl, hV5, hR5, hK5⟩
 have HQ5 := iH (HQ0.o.step hV5 hK5)
 have HR5 : Hd (L5.map SL.b = outs x (k + 1)) := (show _ = outs x k ++ [sV x k] by
  rw [hR5, HRr.o]
  exact if_neg (fun h => by
   rcases h with h | h
   · exact (HS.o.2 k hlk).2.pos HNM.o h
   exact (HS.o.2 k hlk).1 h))
 have HV5 := iH hV5
 have HB5 := iH (HBr.o.trans (HQ5.o.kq.low (fun c hc => (HVr.o.vl.lo c hc).1) nR HBr.o.size))
 clear hV5 hR5 hK5 z2 HQ5 HQ0 HVr HBr
 go_wp2_with fail
 go_roundw
 case rel => exact ⟨k + 1, v5, L5, by omega, by go_num, HR5, HV5, HB5, fun j hj => (show j < x.sn by omega)⟩
 case measure => simp [intOf]; omega
def SelA (body : List (List Int)) (x : QY) : Prop := SelsA body x ∧ GrpA body x ∧ OrdA body x ∧ (-1 ≤ x.lim ∧ x.lim ≤ 999) ∧ (0 ≤ x.off ∧ x.off ≤ 999)
theorem within_tells (n a b : Int) (w : World) : Calls Tryz.prog 76 #[.int .i64 n, .int .i64 a, .int .i64 b] w (Tells (a ≤ n ∧ n ≤ b) w) := by
 refine (within_any n a b w).mono ?_
 rintro e w' ⟨rfl, rfl⟩
 exact ⟨_, rfl, by simp, Below.refl _ _⟩
theorem selectOk_any (x : QY) (vb : Value) (Lb : List SL) (body : List (List Int)) (B : Nat) (w0 w : World) (hx : x.lies 0 w0) (hV : VL w0 w B vb Lb) (hw : Bl w0 w) (hbd : Lb.map SL.b = body) (hl : Lb.length ≤ 1048576) (hN : ∀ v ∈ body, nameOk v = true) :
 Calls Tryz.prog 45 #[.agg x.ar, vb] w (Tells (SelA body x) w) := by
 try unfold QY.ar
 have HC1 := iH (fun W (hb : Bl w W) => selsOk_any x vb Lb body B w0 W hx (hV.below hb) (hw.trans (hb.mono hw.size)) hbd hl hN)
 have HC2 := iH (fun W (hb : Bl w W) => qGroupOk_any x vb Lb body B w0 W hx (hV.below hb) (hw.trans (hb.mono hw.size)) hbd hl hN)
 have HC3 := iH (fun W (hb : Bl w W) (hS : SelsA body x) => orderOk_any x vb Lb body B w0 W hx (hV.below hb) (hw.trans (hb.mono hw.size)) hbd hl hN hS)
 have HWT := iH (fun n a b W => within_tells n a b W)
 have HX0 := iH (Box.new w x.ar 34 (0, 0))
 have HB0 : Hd (Bl w (w.alloc (.cells x.ar 34))) := bl_a _
 obtain ⟨P, hP⟩ : ∃ P : Prop, P = SelA body x := ⟨_, rfl⟩
 have HP := iH (show (P ↔ _) by rw [hP])
 rw [← hP]
 clear hP hx hV hw hbd hN hl
 go_in
 go_upto_region 1 with fail
 generalize (w.alloc (.cells x.ar 34)) = W1 at *
 have ld := HX0.o.range 0 x.cl rfl
 go_wp2_with (with_reducible refine wpq_at ?_; refine wpList_load_mid rfl 34 _ rfl w.heap.size 0 rfl x.cl _ ld Tryz.underlying34 rfl (by kernel_rfl) ?_; try simp only [Act.put, sA, zA, cA])
 clear ld
 refine (HC1.o _ HB0.o).mono ?_
 rintro e w1 ⟨q1, rfl, hq1, hb1⟩
 have HX1 := iH (HX0.o.below hb1)
 have HB1 := iH (bl_trans HB0.o hb1)
 clear hb1 HX0 HB0
 cases q1
 · have HNO : Hd (¬ P) := fun hh => by have h := hq1.2 (HP.o.1 hh).1; cases h
   clear hq1
   go_wp2_with fail
   go_ret
   exact Tells.no HNO.o HB1.o
 have H1 := iH (hq1.1 rfl)
 clear hq1
 have lr : w1.rangeAt w.heap.size 0 x.cl := HX1.o.range 0 _ rfl
 go_wp2_with (with_reducible refine wpq_at ?_; refine wpq_stop 34 _ rfl ?_)
 change wpList _ _ _ _ _ _
 refine wpq_load ?hw 34 _ rfl w.heap.size 0 rfl x.cl _ lr Tryz.underlying34 rfl (by kernel_rfl) ?_
 case hw => rfl
 simp only [Act.put, sA, zA, cA]
 go_wp2_with fail
 refine (HC2.o _ HB1.o).mono ?_
 rintro e w2 ⟨q2, rfl, hq2, hb2⟩
 have HX2 := iH (HX1.o.below hb2)
 have HB2 := iH (bl_trans HB1.o hb2)
 clear hb2 HX1 HB1
 cases q2
 · have HNO : Hd (¬ P) := fun hh => by have h := hq2.2 (HP.o.1 hh).2.1; cases h
   clear hq2
   go_wp2_with fail
   go_ret
   exact Tells.no HNO.o HB2.o
 have H2 := iH (hq2.1 rfl)
 clear hq2
 clear lr
 have lr : w2.rangeAt w.heap.size 0 x.cl := HX2.o.range 0 _ rfl
 go_wp2_with (with_reducible refine wpq_at ?_; refine wpq_stop 34 _ rfl ?_)
 change wpList _ _ _ _ _ _
 refine wpq_load ?hw 34 _ rfl w.heap.size 0 rfl x.cl _ lr Tryz.underlying34 rfl (by kernel_rfl) ?_
 case hw => rfl
 simp only [Act.put, sA, zA, cA]
 go_wp2_with fail
 refine (HC3.o _ HB2.o H1.o).mono ?_
 rintro e w3 ⟨q3, rfl, hq3, hb3⟩
 have HX3 := iH (HX2.o.below hb3)
 have HB3 := iH (bl_trans HB2.o hb3)
 clear hb3 HX2 HB2
 cases q3
 · have HNO : Hd (¬ P) := fun hh => by have h := hq3.2 (HP.o.1 hh).2.2.1; cases h
   clear hq3
   go_wp2_with fail
   go_ret
   exact Tells.no HNO.o HB3.o
 have H3 := iH (hq3.1 rfl)
 clear hq3
 clear lr
 have y6 := HX3.o.2 6 _ rfl
 go_wp2_with fail
 refine (HWT.o x.lim (-1) 999 _).mono ?_
 rintro e w4 ⟨q4, rfl, hq4, hb4⟩
 have HX4 := iH (HX3.o.below hb4)
 have HB4 := iH (bl_trans HB3.o hb4)
 clear hb4 HX3 HB3
 cases q4
 · have HNO : Hd (¬ P) := fun hh => by have h := hq4.2 (HP.o.1 hh).2.2.2.1; cases h
   clear hq4
   go_wp2_with fail
   go_ret
   exact Tells.no HNO.o HB4.o
 have H4 := iH (hq4.1 rfl)
 clear hq4
 clear y6
 have y7 := HX4.o.2 7 _ rfl
 go_wp2_with fail
 refine (HWT.o x.off 0 999 _).mono ?_
 rintro e w5 ⟨q5, rfl, hq5, hb5⟩
 have HX5 := iH (HX4.o.below hb5)
 have HB5 := iH (bl_trans HB4.o hb5)
 clear hb5 HX4 HB4
 cases q5
 · have HNO : Hd (¬ P) := fun hh => by have h := hq5.2 (HP.o.1 hh).2.2.2.2; cases h
   clear hq5
   go_wp2_with fail
   go_ret
   exact Tells.no HNO.o HB5.o
 have H5 := iH (hq5.1 rfl)
 clear hq5
 go_wp2_with fail
 go_ret
 exact Tells.yes (HP.o.2 ⟨H1.o, H2.o, H3.o, H4.o, H5.o⟩) HB5.o
end Go.Proofs.YthljoojcpbignaaGreatDoor
