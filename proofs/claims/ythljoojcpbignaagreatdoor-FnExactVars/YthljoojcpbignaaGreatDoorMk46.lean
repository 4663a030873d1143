import Derived.Test.YthljoojcpbignaaGreatDoorMk45
namespace Go.Proofs.YthljoojcpbignaaGreatDoor
open Go.RowKit Go.Deep
set_option maxHeartbeats 40000000
set_option maxRecDepth 100000
def SelsA (body : List (List Int)) (x : QY) : Prop := x.sn ≤ 8 ∧ ∀ i, i < x.sn → sV x i ∉ outs x i ∧ SelP body (x.sel i)
theorem SE.one (s : SE) : s.cells.toArray.all (·.oneCell') = true := all_oneCell_toArray (cs := s.cells) (by intro v hv; unfold SE.cells at hv; simp only [List.mem_cons, List.not_mem_nil, or_false] at hv; rcases hv with rfl | rfl | rfl <;> rfl)
theorem SelP.pos {body : List (List Int)} {s : SE} (h : SelP body s) (hN : ∀ v ∈ body, nameOk v = true) : s.v.b ≠ [] := by
 rcases h with h | h
 · exact name_pos (hN _ h.2.2)
 exact name_pos h.2.2.1
theorem selsOk_any (x : QY) (vb : Value) (Lb : List SL) (body : List (List Int)) (B : Nat) (w0 w : World) (hx : x.lies 0 w0) (hV : VL w0 w B vb Lb) (hw : Bl w0 w) (hbd : Lb.map SL.b = body) (hl : Lb.length ≤ 1048576) (hN : ∀ v ∈ body, nameOk v = true) :
 Calls Tryz.prog 73 #[.agg x.ar, vb] w (Tells (SelsA body x) w) := by
 try unfold QY.ar
 have HOK := iH (fun i (hi : i < x.sn) W (hb : Bl w W) => selOk_any (x.sel i) vb Lb body B w0 W (hx.s.2.1 i hi) (hV.below hb) (hw.trans (hb.mono hw.size)) hbd hl)
 have HR := iH hx.s.1
 have HVX := iH (fun i (hi : i < x.sn) => (hx.s.2.1 i hi).2)
 have HNM := iH hN
 have HX := iH (Box.new w x.ar 34 (0, 0))
 have HB : Hd (Bl w (w.alloc (.cells x.ar 34))) := bl_a _
 have HW0 : Hd (Bl w0 (w.alloc (.cells x.ar 34))) := hw.trans ((bl_a _).mono hw.size)
 clear hx hV hw hbd hl hN
 go_in
 go_upto_region 1 with fail
 generalize (w.alloc (.cells x.ar 34)) = W1 at *
 have y2 := HX.o.2 2 _ rfl
 by_cases h8 : x.sn ≤ 8
 rotate_left
 · have HNO : Hd (¬ SelsA body x) := fun hh => h8 hh.1
   have h8z : (x.sn : Int) > 8 := by omega
   clear h8
   go_wp2
   go_ret
   exact Tells.no HNO.o HB.o
 have h8z : ¬ (x.sn : Int) > 8 := by omega
 have HV0 : Hd (VQ w0 (W1.alloc (.cells #[.slice none 0 0] 55)) W1.heap.size W1.heap.size (.slice none 0 0) []) := vq_nw HW0.o _
 have HB2 : Hd (Bl w (W1.alloc (.cells #[.slice none 0 0] 55))) := bl_trans HB.o (bl_a _)
 have HX2 : Hd (Box (W1.alloc (.cells #[.slice none 0 0] 55)) w.heap.size x.cl) := HX.o.below (bl_a _)
 have y2b := HX2.o.2 2 _ rfl
 go_wp2_with fail
 clear y2 y2b
 go_loopw [15] (fun i wr => ∃ (k : Nat) (v' : Value) (L' : List SL), k ≤ x.sn ∧ i = .int .i64 k ∧ Hd (L'.map SL.b = outs x k) ∧ Hd (VQ w0 wr W1.heap.size W1.heap.size v' L') ∧ Hd (Bl w wr) ∧ Hd (∀ j, j < k → sV x j ∉ outs x j ∧ SelP body (x.sel j))) (fun i _ => x.sn - (intOf i).toNat)
 case atStart => exact ⟨0, _, [], nZ, rfl, rfl, HV0, HB2, fun j hj => absurd hj nN⟩
 clear HV0 HB2
 obtain ⟨k, v', L', hk, rfl, HRr, HVr, HBr, HOr⟩ := hrel
 by_cases hlk : k < x.sn
 rotate_left
 · have hke : k = x.sn := by omega
   have HY : Hd (SelsA body x) := ⟨h8, fun i hi => HOr.o i (by omega)⟩
   have hlkz : ¬ (k : Int) < (x.sn : Int) := by omega
   clear hke
   go_wp2
   go_ret
   exact Tells.yes HY.o HBr.o
 have hlkz : (k : Int) < (x.sn : Int) := by omega
 obtain ⟨b, off, hsa, _, hlt, hck⟩ := HR.o.resolve_left (by omega)
 have hcx : wr.rangeAt b (off + k * 3) (x.sel k).cl := fun c u hu => (HVr.o.bl.cell (p := ⟨b, off + k * 3 + c, none⟩) hlt).trans (hck k hlk c u hu)
 have hth := (OB.new wr #[.int .i64 0, .slice none 0 0, .slice none 0 0] 105).there 0 3 (by simp)
 have one1 : ((x.sel k).ar : Array Value).all (·.oneCell') = true := SE.one (x.sel k)
 have HBk : Hd (Bl wr ((wr.alloc (.cells #[.int .i64 0, .slice none 0 0, .slice none 0 0] 105)).setCells wr.heap.size 0 (x.sel k).cl)) := below_sets _ nR _ _ _ (bl_a _)
 have HQ0 : Hd (QS w0 wr W1.heap.size W1.heap.size v' v' L' (x.sel k).cells ((wr.alloc (.cells #[.int .i64 0, .slice none 0 0, .slice none 0 0] 105)).setCells wr.heap.size 0 (x.sel k).cl)) := ⟨HVr.o.below HBk.o, KQ.of_below HBk.o, ((OB.new wr #[.int .i64 0, .slice none 0 0, .slice none 0 0] 105).put (x.sel k).cl 0 (x.sel k).cl (show 0 + 3 ≤ 3 by omega) rfl).box, fun e => by have := (HVr.o.vl.lo _ e).2; omega, HVr.o.lt⟩
 have HB0 := iH (HBr.o.trans (HBk.o.mono HBr.o.size))
 have HLl : Hd (L'.length ≤ 1000000) := (show _ ≤ 1000000 by have h2 := congrArg List.length HRr.o; rw [List.length_map, outs_len] at h2; omega)
 rw [hsa]
 go_wp2_with (first | (with_reducible refine wpq_at ?_; refine wpList_load_mid rfl 105 _ rfl b (off + k * 3) rfl (x.sel k).cl _ hcx Tryz.underlying105 rfl (by kernel_rfl) ?_; try simp only [Act.put, sA, zA, cA]) | (with_reducible refine wpq_at ?_; refine store_stop 105 (.tmp 7) (.tmp 18) rfl ?_))
 change wpList _ _ _ _ _ _
 refine wpList_store_mid rfl 105 _ _ rfl wr.heap.size 0 (x.sel k).ar rfl rfl hth (by kernel_rfl) one1 ?_
 try simp only [Act.put]
 generalize ((wr.alloc (.cells #[.int .i64 0, .slice none 0 0, .slice none 0 0] 105)).setCells wr.heap.size 0 (x.sel k).cl) = W5 at *
 clear hcx hth one1 hck HBk
 have z2 := HQ0.o.bx.2 2 _ rfl
 have yl := HQ0.o.vq.cell
 go_wp2_with fail
 refine (has_any v' L' (x.sel k).v W1.heap.size w0 _ HQ0.o.vq.vl HQ0.o.vq.bl (HVX.o k hlk) (by have := HLl.o; omega)).mono ?_
 rintro e w1 ⟨q1, rfl, hq1, hb1⟩
 have HQ1 := iH (HQ0.o.below hb1)
 have HB1 := iH (HB0.o.trans (hb1.mono HB0.o.size))
 clear hb1 HQ0 HB0 z2 yl
 cases q1 with
 | true =>
  have HNO : Hd (¬ SelsA body x) := fun hh => (hh.2 k hlk).1 (by have h1 := hq1.1 rfl; unfold InL at h1; rw [HRr.o] at h1; exact h1)
  clear hq1
  go_wp2
  go_ret
  exact Tells.no HNO.o HB1.o
 | false =>
  have HNI : Hd (sV x k ∉ outs x k) := fun hh => by
   have h1 := hq1.2 (show _ ∈ _ by rw [HRr.o]; exact hh)
   cases h1
  clear hq1
  have lr := HQ1.o.bx.range 0 (x.sel k).cl rfl
  go_wp2_with (with_reducible refine wpq_at ?_; refine wpq_stop 105 _ rfl ?_)
  change wpList _ _ _ _ _ _
  refine wpq_load ?hw 105 _ rfl wr.heap.size 0 rfl (x.sel k).cl _ lr Tryz.underlying105 rfl (by kernel_rfl) ?_
  case hw => rfl
  simp only [Act.put, sA, zA, cA]
  go_wp2_with fail
  refine (HOK.o k hlk _ HB1.o).mono ?_
  rintro e w3 ⟨q3, rfl, hq3, hb3⟩
  have HQ3 := iH (HQ1.o.below hb3)
  have HB3 := iH (HB1.o.trans (hb3.mono HB1.o.size))
  clear hb3 HQ1 HB1 lr
  cases q3
  · have HNO : Hd (¬ SelsA body x) := fun hh => by have h1 := hq3.2 (hh.2 k hlk).2; cases h1
    clear hq3
    go_wp2
    go_ret
    exact Tells.no HNO.o HB3.o
  have HSP := iH (hq3.1 rfl)
  clear hq3
  have z2 := HQ3.o.bx.2 2 _ rfl
  go_wp2_with fail
  refine (add_any v' L' (x.sel k).v W1.heap.size W1.heap.size w0 _ HQ3.o.vq (HVX.o k hlk) HLl.o).mono ?_
  rintro e z5 ⟨v5, L5, rfl, hV5, hR5, hK5⟩
  have HQ5 := iH (HQ3.o.step hV5 hK5)
  have HR5 : Hd (L5.map SL.b = outs x (k + 1)) := (show _ = outs x k ++ [sV x k] by
   rw [hR5, HRr.o]
   exact if_neg (fun h => by
    rcases h with h | h
    · exact HSP.o.pos HNM.o h
    exact HNI.o h))
  have HV5 := iH hV5
  have HB5 := iH (HBr.o.trans (HQ5.o.kq.low (fun c hc => Nat.le_trans HB.o.size (HVr.o.vl.lo c hc).1) HB.o.size HBr.o.size))
  have HO5 : Hd (∀ j, j < k + 1 → sV x j ∉ outs x j ∧ SelP body (x.sel j)) := fun j hj => by
   by_cases e : j = k
   · subst e
     exact ⟨HNI.o, HSP.o⟩
   exact HOr.o j (by omega)
  clear hV5 hR5 hK5 HQ3 HB3 z2 HQ5 HVr HBr
  go_wp2
  go_roundw
  case rel => exact ⟨k + 1, v5, L5, by omega, by go_num, HR5, HV5, HB5, HO5⟩
  case measure => simp [intOf]; omega
theorem indexFn_any (a : Option Addr) (n cap : Nat) (f : Nat → SE) (Q : Nat → Prop) (w : World) (hn : n ≤ 1048576) (hR : KRow 0 w 3 a n (fun i => (f i).cells)) (HNP : ∀ i, i < n → ∀ W, Bl w W → Calls Tryz.prog 145 #[.agg (f i).ar] W (Tells (Q i) W)) :
 Calls Tryz.prog 146 #[.slice a n cap, .func (.func 145) #[] #[]] w (IdxAns (¬ (∃ i, i < n ∧ Q i)) w) := by
 try unfold SE.ar
 have HNP := iH HNP
 obtain ⟨P, hP⟩ : ∃ P : Prop, P = (∃ i, i < n ∧ Q i) := ⟨_, rfl⟩
 have HPE := iH (show (P ↔ _) by rw [hP])
 rw [← hP]
 clear hP
 by_cases hn1 : n = 0
 · subst hn1
   clear hR HNP
   have HNI : Hd (¬ P) := fun hh => by
    obtain ⟨i, hi, _⟩ := HPE.o.1 hh
    omega
   go_in
   go_wp2_with fail
   go_loopw [8] (fun i wr => i = .int .i64 0 ∧ Hd (Bl w wr)) (fun _ _ => 0)
   case atStart => exact ⟨rfl, Below.refl _ _⟩
   obtain ⟨rfl, HB⟩ := hrel
   go_wp2
   go_ret
   exact IdxAns.of ⟨fun h => absurd h (by decide), fun h => absurd HNI.o h⟩ HB.o
 obtain ⟨b, off, rfl, _, hbk, hck⟩ := hR.resolve_left hn1
 have HCK := iH hck
 clear hck hR hn1
 go_in
 go_wp2_with fail
 go_loopw [8] (fun i wr => ∃ k : Nat, k ≤ n ∧ i = .int .i64 k ∧ Hd (∀ j, j < k → ¬ Q j) ∧ Hd (Bl w wr)) (fun i _ => n - (intOf i).toNat)
 case atStart => exact ⟨0, nZ, rfl, fun j hj => absurd hj nN, Below.refl _ _⟩
 obtain ⟨k, hk, rfl, HOK, HB⟩ := hrel
 by_cases hlk : k < n
 rotate_left
 · obtain rfl : k = n := by omega
   have hlkz : ¬ (k : Int) < (k : Int) := by omega
   have HNI : Hd (¬ P) := fun hh => by
    obtain ⟨i, hi, hq⟩ := HPE.o.1 hh
    exact HOK.o i hi hq
   go_wp2
   go_ret
   exact IdxAns.of ⟨fun h => absurd h (by decide), fun h => absurd HNI.o h⟩ HB.o
 have hlkz : (k : Int) < (n : Int) := by omega
 have hcx : wr.rangeAt b (off + k * 3) (f k).cl := fun c u hu => (HB.o.cell (p := ⟨b, off + k * 3 + c, none⟩) hbk).trans (HCK.o k hlk c u hu)
 go_wp2_with (with_reducible refine wpq_at ?_; refine wpList_load_mid rfl 105 _ rfl b (off + k * 3) rfl (f k).cl _ hcx Tryz.underlying105 rfl (by kernel_rfl) ?_; try simp only [Act.put, sA, zA, cA])
 refine (HNP.o k hlk wr HB.o).mono ?_
 rintro e w1 ⟨q1, rfl, hq1, hb1⟩
 have HB1 := iH (bl_trans HB.o hb1)
 clear hb1 hcx HB
 cases q1 with
 | true =>
  have HY := iH (HPE.o.2 ⟨k, hlk, hq1.1 rfl⟩)
  clear hq1
  go_wp2
  go_ret
  exact IdxAns.of ⟨fun _ h => h HY.o, fun _ => by omega⟩ HB1.o
 | false =>
  have HNQ : Hd (¬ Q k) := fun hh => by have h := hq1.2 hh; cases h
  clear hq1
  go_wp2
  go_roundw
  case rel =>
   refine ⟨k + 1, by omega, by go_num, fun j hj => ?_, HB1⟩
   by_cases e : j = k
   · subst e
     exact HNQ.o
   exact HOK.o j (by omega)
  case measure => simp [intOf]; omega
theorem containsFn_any (a : Option Addr) (n cap : Nat) (f : Nat → SE) (Q : Nat → Prop) (w : World) (hn : n ≤ 1048576) (hR : KRow 0 w 3 a n (fun i => (f i).cells)) (HNP : ∀ i, i < n → ∀ W, Bl w W → Calls Tryz.prog 145 #[.agg (f i).ar] W (Tells (Q i) W)) :
 Calls Tryz.prog 111 #[.slice a n cap, .func (.func 145) #[] #[]] w (Tells (∃ i, i < n ∧ Q i) w) := by
 try unfold SE.ar
 have IX := indexFn_any a n cap f Q w hn hR HNP
 obtain ⟨P, hP⟩ : ∃ P : Prop, P = (∃ i, i < n ∧ Q i) := ⟨_, rfl⟩
 rw [← hP] at IX ⊢
 clear hP hR hn HNP
 go_in
 go_wp2_with fail
 refine IX.mono ?_
 rintro e w1 ⟨v, rfl, hv, hb⟩
 have HV := iH hv
 have HB := iH hb
 clear IX hv hb
 go_wp2
 go_ret
 refine Tells.of ?_ HB.o
 rw [← Classical.not_not (a := P), ← HV.o]
 simp
theorem indexPlain_any (a : Option Addr) (n cap : Nat) (f : Nat → SE) (Q : Nat → Prop) (c : Nat) (w : World) (hn : n ≤ 1048576) (hR : KRow 0 w 3 a n (fun i => (f i).cells)) (HNP : ∀ i, i < n → ∀ W, Bl w W → Calls Tryz.prog 112 #[.agg (f i).ar, .pointer (some ⟨c, 0, none⟩)] W (Tells (Q i) W)) :
 Calls Tryz.prog 146 #[.slice a n cap, .func (.func 112) #[] #[.pointer (some ⟨c, 0, none⟩)]] w (IdxAns (¬ (∃ i, i < n ∧ Q i)) w) := by
 try unfold SE.ar
 have HNP := iH HNP
 obtain ⟨P, hP⟩ : ∃ P : Prop, P = (∃ i, i < n ∧ Q i) := ⟨_, rfl⟩
 have HPE := iH (show (P ↔ _) by rw [hP])
 rw [← hP]
 clear hP
 by_cases hn1 : n = 0
 · subst hn1
   clear hR HNP
   have HNI : Hd (¬ P) := fun hh => by
    obtain ⟨i, hi, _⟩ := HPE.o.1 hh
    omega
   go_in
   go_wp2_with fail
   go_loopw [8] (fun i wr => i = .int .i64 0 ∧ Hd (Bl w wr)) (fun _ _ => 0)
   case atStart => exact ⟨rfl, Below.refl _ _⟩
   obtain ⟨rfl, HB⟩ := hrel
   go_wp2
   go_ret
   exact IdxAns.of ⟨fun h => absurd h (by decide), fun h => absurd HNI.o h⟩ HB.o
 obtain ⟨b, off, rfl, _, hbk, hck⟩ := hR.resolve_left hn1
 have HCK := iH hck
 clear hck hR hn1
 go_in
 go_wp2_with fail
 go_loopw [8] (fun i wr => ∃ k : Nat, k ≤ n ∧ i = .int .i64 k ∧ Hd (∀ j, j < k → ¬ Q j) ∧ Hd (Bl w wr)) (fun i _ => n - (intOf i).toNat)
 case atStart => exact ⟨0, nZ, rfl, fun j hj => absurd hj nN, Below.refl _ _⟩
 obtain ⟨k, hk, rfl, HOK, HB⟩ := hrel
 by_cases hlk : k < n
 rotate_left
 · obtain rfl : k = n := by omega
   have hlkz : ¬ (k : Int) < (k : Int) := by omega
   have HNI : Hd (¬ P) := fun hh => by
    obtain ⟨i, hi, hq⟩ := HPE.o.1 hh
    exact HOK.o i hi hq
   go_wp2
   go_ret
   exact IdxAns.of ⟨fun h => absurd h (by decide), fun h => absurd HNI.o h⟩ HB.o
 have hlkz : (k : Int) < (n : Int) := by omega
 have hcx : wr.rangeAt b (off + k * 3) (f k).cl := fun c u hu => (HB.o.cell (p := ⟨b, off + k * 3 + c, none⟩) hbk).trans (HCK.o k hlk c u hu)
 go_wp2_with (with_reducible refine wpq_at ?_; refine wpList_load_mid rfl 105 _ rfl b (off + k * 3) rfl (f k).cl _ hcx Tryz.underlying105 rfl (by kernel_rfl) ?_; try simp only [Act.put, sA, zA, cA])
 refine (HNP.o k hlk wr HB.o).mono ?_
 rintro e w1 ⟨q1, rfl, hq1, hb1⟩
 have HB1 := iH (bl_trans HB.o hb1)
 clear hb1 hcx HB
 cases q1 with
 | true =>
  have HY := iH (HPE.o.2 ⟨k, hlk, hq1.1 rfl⟩)
  clear hq1
  go_wp2
  go_ret
  exact IdxAns.of ⟨fun _ h => h HY.o, fun _ => by omega⟩ HB1.o
 | false =>
  have HNQ : Hd (¬ Q k) := fun hh => by have h := hq1.2 hh; cases h
  clear hq1
  go_wp2
  go_roundw
  case rel =>
   refine ⟨k + 1, by omega, by go_num, fun j hj => ?_, HB1⟩
   by_cases e : j = k
   · subst e
     exact HNQ.o
   exact HOK.o j (by omega)
  case measure => simp [intOf]; omega
theorem containsPlain_any (a : Option Addr) (n cap : Nat) (f : Nat → SE) (Q : Nat → Prop) (c : Nat) (w : World) (hn : n ≤ 1048576) (hR : KRow 0 w 3 a n (fun i => (f i).cells)) (HNP : ∀ i, i < n → ∀ W, Bl w W → Calls Tryz.prog 112 #[.agg (f i).ar, .pointer (some ⟨c, 0, none⟩)] W (Tells (Q i) W)) :
 Calls Tryz.prog 111 #[.slice a n cap, .func (.func 112) #[] #[.pointer (some ⟨c, 0, none⟩)]] w (Tells (∃ i, i < n ∧ Q i) w) := by
 try unfold SE.ar
 have IX := indexPlain_any a n cap f Q c w hn hR HNP
 obtain ⟨P, hP⟩ : ∃ P : Prop, P = (∃ i, i < n ∧ Q i) := ⟨_, rfl⟩
 rw [← hP] at IX ⊢
 clear hP hR hn HNP
 go_in
 go_wp2_with fail
 refine IX.mono ?_
 rintro e w1 ⟨v, rfl, hv, hb⟩
 have HV := iH hv
 have HB := iH hb
 clear IX hv hb
 go_wp2
 go_ret
 refine Tells.of ?_ HB.o
 rw [← Classical.not_not (a := P), ← HV.o]
 simp
theorem indexKey_any (a : Option Addr) (n cap : Nat) (f : Nat → KY) (Q : Nat → Prop) (c : Nat) (w : World) (hn : n ≤ 1048576) (hR : KRow 0 w 2 a n (fun i => (f i).cells)) (HNP : ∀ i, i < n → ∀ W, Bl w W → Calls Tryz.prog 114 #[.agg #[.slice (f i).v.a (f i).v.len (f i).v.cap, .bool (f i).down], .pointer (some ⟨c, 0, none⟩)] W (Tells (Q i) W)) :
 Calls Tryz.prog 147 #[.slice a n cap, .func (.func 114) #[] #[.pointer (some ⟨c, 0, none⟩)]] w (IdxAns (¬ (∃ i, i < n ∧ Q i)) w) := by
 have HNP := iH HNP
 obtain ⟨P, hP⟩ : ∃ P : Prop, P = (∃ i, i < n ∧ Q i) := ⟨_, rfl⟩
 have HPE := iH (show (P ↔ _) by rw [hP])
 rw [← hP]
 clear hP
 by_cases hn1 : n = 0
 · subst hn1
   clear hR HNP
   have HNI : Hd (¬ P) := fun hh => by
    obtain ⟨i, hi, _⟩ := HPE.o.1 hh
    omega
   go_in
   go_wp2_with fail
   go_loopw [8] (fun i wr => i = .int .i64 0 ∧ Hd (Bl w wr)) (fun _ _ => 0)
   case atStart => exact ⟨rfl, Below.refl _ _⟩
   obtain ⟨rfl, HB⟩ := hrel
   go_wp2
   go_ret
   exact IdxAns.of ⟨fun h => absurd h (by decide), fun h => absurd HNI.o h⟩ HB.o
 obtain ⟨b, off, rfl, _, hbk, hck⟩ := hR.resolve_left hn1
 have HCK := iH hck
 clear hck hR hn1
 go_in
 go_wp2_with fail
 go_loopw [8] (fun i wr => ∃ k : Nat, k ≤ n ∧ i = .int .i64 k ∧ Hd (∀ j, j < k → ¬ Q j) ∧ Hd (Bl w wr)) (fun i _ => n - (intOf i).toNat)
 case atStart => exact ⟨0, nZ, rfl, fun j hj => absurd hj nN, Below.refl _ _⟩
 obtain ⟨k, hk, rfl, HOK, HB⟩ := hrel
 by_cases hlk : k < n
 rotate_left
 · obtain rfl : k = n := by omega
   have hlkz : ¬ (k : Int) < (k : Int) := by omega
   have HNI : Hd (¬ P) := fun hh => by
    obtain ⟨i, hi, hq⟩ := HPE.o.1 hh
    exact HOK.o i hi hq
   go_wp2
   go_ret
   exact IdxAns.of ⟨fun h => absurd h (by decide), fun h => absurd HNI.o h⟩ HB.o
 have hlkz : (k : Int) < (n : Int) := by omega
 have hcx : wr.rangeAt b (off + k * 2) [.slice (f k).v.a (f k).v.len (f k).v.cap, .bool (f k).down] := fun c u hu => (HB.o.cell (p := ⟨b, off + k * 2 + c, none⟩) hbk).trans (HCK.o k hlk c u hu)
 go_wp2_with (with_reducible refine wpq_at ?_; refine ldr rfl rfl rfl Tryz.underlying108 hcx rfl ?_; try simp only [Act.put, sA, zA, cA])
 refine (HNP.o k hlk wr HB.o).mono ?_
 rintro e w1 ⟨q1, rfl, hq1, hb1⟩
 have HB1 := iH (bl_trans HB.o hb1)
 clear hb1 hcx HB
 cases q1 with
 | true =>
  have HY := iH (HPE.o.2 ⟨k, hlk, hq1.1 rfl⟩)
  clear hq1
  go_wp2
  go_ret
  exact IdxAns.of ⟨fun _ h => h HY.o, fun _ => by omega⟩ HB1.o
 | false =>
  have HNQ : Hd (¬ Q k) := fun hh => by have h := hq1.2 hh; cases h
  clear hq1
  go_wp2
  go_roundw
  case rel =>
   refine ⟨k + 1, by omega, by go_num, fun j hj => ?_, HB1⟩
   by_cases e : j = k
   · subst e
     exact HNQ.o
   exact HOK.o j (by omega)
  case measure => simp [intOf]; omega
theorem containsKey_any (a : Option Addr) (n cap : Nat) (f : Nat → KY) (Q : Nat → Prop) (c : Nat) (w : World) (hn : n ≤ 1048576) (hR : KRow 0 w 2 a n (fun i => (f i).cells)) (HNP : ∀ i, i < n → ∀ W, Bl w W → Calls Tryz.prog 114 #[.agg #[.slice (f i).v.a (f i).v.len (f i).v.cap, .bool (f i).down], .pointer (some ⟨c, 0, none⟩)] W (Tells (Q i) W)) :
 Calls Tryz.prog 113 #[.slice a n cap, .func (.func 114) #[] #[.pointer (some ⟨c, 0, none⟩)]] w (Tells (∃ i, i < n ∧ Q i) w) := by
 have IX := indexKey_any a n cap f Q c w hn hR HNP
 obtain ⟨P, hP⟩ : ∃ P : Prop, P = (∃ i, i < n ∧ Q i) := ⟨_, rfl⟩
 rw [← hP] at IX ⊢
 clear hP hR hn HNP
 go_in
 go_wp2_with fail
 refine IX.mono ?_
 rintro e w1 ⟨v, rfl, hv, hb⟩
 have HV := iH hv
 have HB := iH hb
 clear IX hv hb
 go_wp2
 go_ret
 refine Tells.of ?_ HB.o
 rw [← Classical.not_not (a := P), ← HV.o]
 simp
theorem fnC_any (x : SE) (w : World) : Calls Tryz.prog 145 #[.agg x.ar] w (Tells (x.fn ≠ 0) w) := by
 have HX : Hd (Box (w.alloc (.cells x.ar 105)) w.heap.size x.cells) := Box.new w _ 105 (0, 0)
 have HB : Hd (Bl w (w.alloc (.cells x.ar 105))) := bl_a _
 go_in
 go_upto_region 1 with fail
 generalize (w.alloc (.cells x.ar 105)) = W1 at *
 have y0 := HX.o.2 0 _ rfl
 go_wp2
 go_ret
 exact Tells.of (by simp) HB.o
theorem plainC_any (x : SE) (v : Value) (L : List SL) (B c : Nat) (w0 w : World) (hx : x.lies 0 w0) (hV : VQ w0 w B c v L) (hl : L.length ≤ 1048576) :
 Calls Tryz.prog 112 #[.agg x.ar, .pointer (some ⟨c, 0, none⟩)] w (Tells (x.fn = 0 ∧ x.v.b ∉ L.map SL.b) w) := by
 try unfold SE.ar
 have HX : Hd (Box (w.alloc (.cells x.ar 105)) w.heap.size x.cells) := Box.new w _ 105 (0, 0)
 have HB : Hd (Bl w (w.alloc (.cells x.ar 105))) := bl_a _
 have HV : Hd (VQ w0 (w.alloc (.cells x.ar 105)) B c v L) := hV.below (bl_a _)
 have HVX := iH hx.2
 obtain ⟨P, hP⟩ : ∃ P : Prop, P = (x.fn = 0 ∧ x.v.b ∉ L.map SL.b) := ⟨_, rfl⟩
 have HPE := iH (show (P ↔ _) by rw [hP])
 rw [← hP]
 clear hP hx hV
 go_in
 go_upto_region 1 with fail
 generalize (w.alloc (.cells x.ar 105)) = W1 at *
 have y0 := HX.o.2 0 _ rfl
 by_cases h : x.fn = 0
 rotate_left
 · have HNO : Hd (¬ P) := fun hh => h (HPE.o.1 hh).1
   have b0 : (x.fn == 0) = false := by simp [h]
   clear h
   go_wp2
   go_ret
   exact Tells.no HNO.o HB.o
 have HK := iH h
 have b0 : (x.fn == 0) = true := by simp [h]
 have y2 := HX.o.2 2 _ rfl
 have yl := HV.o.cell
 clear h
 go_wp2_with fail
 refine (has_any v L x.v B w0 _ HV.o.vl HV.o.bl HVX.o hl).mono ?_
 rintro e w1 ⟨q1, rfl, hq1, hb1⟩
 have HB1 := iH (bl_trans HB.o hb1)
 clear hb1 HX HB HV y0 y2 yl
 cases q1 with
 | true =>
  have HNO : Hd (¬ P) := fun hh => (HPE.o.1 hh).2 (hq1.1 rfl)
  clear hq1
  go_wp2
  go_ret
  exact Tells.no HNO.o HB1.o
 | false =>
  have HY := iH (HPE.o.2 ⟨HK.o, fun hh => by have h1 := hq1.2 hh; cases h1⟩)
  clear hq1
  go_wp2
  go_ret
  exact Tells.yes HY.o HB1.o
theorem keyC_any (x : KY) (v : Value) (L : List SL) (B c : Nat) (w0 w : World) (hx : x.lies 0 w0) (hV : VL w0 w B v L) (hc : w.cell? ⟨c, 0, none⟩ = some v) (hcl : c < w.heap.size) (hw : Bl w0 w) (hl : L.length ≤ 1048576) :
 Calls Tryz.prog 114 #[.agg #[.slice x.v.a x.v.len x.v.cap, .bool x.down], .pointer (some ⟨c, 0, none⟩)] w (Tells (x.v.b ∉ L.map SL.b) w) := by
 have HX : Hd (Box (w.alloc (.cells #[.slice x.v.a x.v.len x.v.cap, .bool x.down] 108)) w.heap.size x.cells) := Box.new w _ 108 (0, 0)
 have HB : Hd (Bl w (w.alloc (.cells #[.slice x.v.a x.v.len x.v.cap, .bool x.down] 108))) := bl_a _
 have HV : Hd (VL w0 (w.alloc (.cells #[.slice x.v.a x.v.len x.v.cap, .bool x.down] 108)) B v L) := hV.below (bl_a _)
 have HC := iH (((bl_a _ : Bl w (w.alloc (.cells #[.slice x.v.a x.v.len x.v.cap, .bool x.down] 108))).cell (p := ⟨c, 0, none⟩) hcl).trans hc)
 have HW : Hd (Bl w0 (w.alloc (.cells #[.slice x.v.a x.v.len x.v.cap, .bool x.down] 108))) := hw.trans ((bl_a _).mono hw.size)
 have HVX : Hd (BsF 0 w0 x.v) := hx
 obtain ⟨P, hP⟩ : ∃ P : Prop, P = (x.v.b ∉ L.map SL.b) := ⟨_, rfl⟩
 have HPE := iH (show (P ↔ _) by rw [hP])
 rw [← hP]
 clear hP hx hV hc hw
 go_in
 go_upto_region 1 with fail
 generalize (w.alloc (.cells #[.slice x.v.a x.v.len x.v.cap, .bool x.down] 108)) = W1 at *
 have y0 := HX.o.2 0 _ rfl
 have yl := HC.o
 go_wp2_with fail
 refine (has_any v L x.v B w0 _ HV.o HW.o HVX.o hl).mono ?_
 rintro e w1 ⟨q1, rfl, hq1, hb1⟩
 have HB1 := iH (bl_trans HB.o hb1)
 clear hb1 HX HB HV HC y0 yl
 cases q1 with
 | true =>
  have HNO : Hd (¬ P) := fun hh => (HPE.o.1 hh) (hq1.1 rfl)
  clear hq1
  go_wp2
  go_ret
  exact Tells.no HNO.o HB1.o
 | false =>
  have HY := iH (HPE.o.2 fun hh => by have h1 := hq1.2 hh; cases h1)
  clear hq1
  go_wp2
  go_ret
  exact Tells.yes HY.o HB1.o
theorem isGrouped_any (x : QY) (w : World) (hx : x.lies 0 w) : Calls Tryz.prog 110 #[.agg x.ar] w (Tells (isGr x) w) := by
 try unfold QY.ar
 have HCT := iH (fun W (hb : Bl w W) => containsFn_any x.sa x.sn x.sc x.sel _ W hx.s.2.2 (hx.s.1.upper (uB hb)) fun i _ W' _ => fnC_any (x.sel i) W')
 have HX := iH (Box.new w x.ar 34 (0, 0))
 have HB : Hd (Bl w (w.alloc (.cells x.ar 34))) := bl_a _
 clear hx
 obtain ⟨P, hP⟩ : ∃ P : Prop, P = isGr x := ⟨_, rfl⟩
 have HPE := iH (show (P ↔ _) by rw [hP])
 rw [← hP]
 clear hP
 go_in
 go_upto_region 1 with fail
 generalize (w.alloc (.cells x.ar 34)) = W1 at *
 have y4 := HX.o.2 4 _ rfl
 by_cases h : 0 < x.gn
 · have HY := iH (HPE.o.2 (.inl h))
   have hz : (x.gn : Int) > 0 := by omega
   clear h
   go_wp2
   go_ret
   exact Tells.yes HY.o HB.o
 have HG := iH h
 have hz : ¬ (x.gn : Int) > 0 := by omega
 have y2 := HX.o.2 2 _ rfl
 clear h
 go_wp2_with fail
 refine (HCT.o _ HB.o).mono ?_
 rintro e w1 ⟨q1, rfl, hq1, hb1⟩
 have HB1 := iH (bl_trans HB.o hb1)
 have HQ := iH (show (q1 = true ↔ P) from hq1.trans ⟨fun h => HPE.o.2 (.inr h), fun h => (HPE.o.1 h).resolve_left HG.o⟩)
 clear hb1 hq1 HX HB y4 y2
 go_wp2
 go_ret
 exact Tells.of HQ.o HB1.o
def grpL (x : QY) : Nat → List (List Int)
 | 0 => []
 | k + 1 => grpL x k ++ [(x.grp k).b]
theorem grpL_len (x : QY) (k : Nat) : (grpL x k).length = k := by
 induction k with
 | zero => rfl
 | succ k ih => simp [grpL, ih]
theorem grpL_mem (x : QY) (k : Nat) (b : List Int) : b ∈ grpL x k ↔ inG x k b := by
 induction k with
 | zero => exact ⟨fun h => (by cases h), fun ⟨j, hj, _⟩ => absurd hj nN⟩
 | succ k ih =>
  show b ∈ grpL x k ++ [(x.grp k).b] ↔ _
  rw [List.mem_append, ih]
  constructor
  · rintro (⟨j, hj, e⟩ | h)
    · exact ⟨j, by omega, e⟩
    exact ⟨k, by omega, (List.mem_singleton.1 h).symm⟩
  rintro ⟨j, hj, e⟩
  by_cases h : j = k
  · subst h
    exact .inr (List.mem_singleton.2 e.symm)
  exact .inl ⟨j, by omega, e⟩
def GrpA (body : List (List Int)) (x : QY) : Prop := x.gn ≤ 4 ∧ (∀ i, i < x.gn → (x.grp i).b ∈ body ∧ ¬ inG x i (x.grp i).b) ∧ (isGr x → x.sn ≠ 0 ∧ ∀ i, i < x.sn → (x.sel i).fn = 0 → inG x x.gn (sV x i))
theorem qGroupOk_any (x : QY) (vb : Value) (Lb : List SL) (body : List (List Int)) (B : Nat) (w0 w : World) (hx : x.lies 0 w0) (hV : VL w0 w B vb Lb) (hw : Bl w0 w) (hbd : Lb.map SL.b = body) (hl : Lb.length ≤ 1048576) (hN : ∀ v ∈ body, nameOk v = true) :
 Calls Tryz.prog 74 #[.agg x.ar, vb] w (Tells (GrpA body x) w) := by
 try unfold QY.ar
 have HHas : Hd (∀ i, i < x.gn → ∀ W, Bl w W → Cl 71 #[vb, .slice (x.grp i).a (x.grp i).len (x.grp i).cap] W (Tells ((x.grp i).b ∈ body) W)) := fun i hi W hb => by
  rw [← hbd]
  exact has_any vb Lb (x.grp i) B w0 W (hV.below hb) (hw.trans (hb.mono hw.size)) (hx.g.2.1 i hi) hl
 have HIG := iH (fun W (hb : Bl w W) => isGrouped_any x W (hx.upper (uB (hw.trans (hb.mono hw.size)))))
 have HCT := iH (fun W v L g (hVq : VQ w0 W g g v L) (hll : L.length ≤ 1048576) => containsPlain_any x.sa x.sn x.sc x.sel _ g W hx.s.2.2 (hx.s.1.upper (uB hVq.bl)) fun i hi W' hb => plainC_any (x.sel i) v L g g w0 W' (hx.s.2.1 i hi) (hVq.below hb) hll)
 have HR := iH hx.g.1
 have HVX : Hd (∀ i, i < x.gn → BsF 0 w0 (x.grp i)) := fun i hi => hx.g.2.1 i hi
 have HNM := iH hN
 have HX := iH (Box.new w x.ar 34 (0, 0))
 have HB : Hd (Bl w (w.alloc (.cells x.ar 34))) := bl_a _
 have HW0 : Hd (Bl w0 (w.alloc (.cells x.ar 34))) := hw.trans ((bl_a _).mono hw.size)
 obtain ⟨P, hP⟩ : ∃ P : Prop, P = GrpA body x := ⟨_, rfl⟩
 have HPE := iH (show (P ↔ _) by rw [hP])
 rw [← hP]
 clear hP hx hV hw hbd hl hN
 go_in
 go_upto_region 1 with fail
 generalize (w.alloc (.cells x.ar 34)) = W1 at *
 have y4 := HX.o.2 4 _ rfl
 by_cases h4 : x.gn ≤ 4
 rotate_left
 · have HNO : Hd (¬ P) := fun hh => h4 (HPE.o.1 hh).1
   have h4z : (x.gn : Int) > 4 := by omega
   clear h4
   go_wp2
   go_ret
   exact Tells.no HNO.o HB.o
 have h4z : ¬ (x.gn : Int) > 4 := by omega
 have HV0 : Hd (VQ w0 (W1.alloc (.cells #[.slice none 0 0] 55)) W1.heap.size W1.heap.size (.slice none 0 0) []) := vq_nw HW0.o _
 have HB2 : Hd (Bl W1 (W1.alloc (.cells #[.slice none 0 0] 55))) := bl_a _
 have HX2 : Hd (Box (W1.alloc (.cells #[.slice none 0 0] 55)) w.heap.size x.cl) := HX.o.below (bl_a _)
 have y4b := HX2.o.2 4 _ rfl
 go_wp2_with fail
 clear y4 y4b HX2
 go_loopw [15] (fun i wr => ∃ (k : Nat) (v' : Value) (L' : List SL), k ≤ x.gn ∧ i = .int .i64 k ∧ Hd (L'.map SL.b = grpL x k) ∧ Hd (VQ w0 wr W1.heap.size W1.heap.size v' L') ∧ Hd (Bl W1 wr) ∧ Hd (∀ j, j < k → (x.grp j).b ∈ body ∧ ¬ inG x j (x.grp j).b)) (fun i _ => x.gn - (intOf i).toNat)
 case atStart => exact ⟨0, _, [], nZ, rfl, rfl, HV0, HB2, fun j hj => absurd hj nN⟩
 clear HV0 HB2
 obtain ⟨k, v', L', hk, rfl, HRr, HVr, HBr, HOr⟩ := hrel
 have HBw := iH (bl_trans HB.o HBr.o)
 have HLl : Hd (L'.length ≤ 4) := (show _ ≤ _ by have h2 := congrArg List.length HRr.o; rw [List.length_map, grpL_len] at h2; omega)
 by_cases hlk : k < x.gn
 rotate_left
 · obtain rfl : k = x.gn := by omega
   have hlkz : ¬ (x.gn : Int) < (x.gn : Int) := by omega
   have HXr := iH (HX.o.below HBr.o)
   have lr := HXr.o.range 0 x.cl rfl
   go_wp2_with (with_reducible refine wpq_at ?_; refine ldr rfl rfl rfl Tryz.underlying34 lr rfl ?_; try simp only [Act.put, sA, zA, cA])
   refine (HIG.o _ HBw.o).mono ?_
   rintro e w1 ⟨q1, rfl, hq1, hb1⟩
   have HX1 := iH (HXr.o.below hb1)
   have HB1 := iH (bl_trans HBw.o hb1)
   have HV1 := iH (HVr.o.below hb1)
   clear hb1 HXr HVr HBr HBw lr HX HB
   cases q1
   · have HY := iH (HPE.o.2 ⟨h4, HOr.o, fun hh => by have h1 := hq1.2 hh; cases h1⟩)
     clear hq1
     go_wp2
     go_ret
     exact Tells.yes HY.o HB1.o
   have HG := iH (hq1.1 rfl)
   have y2 := HX1.o.2 2 _ rfl
   clear hq1
   by_cases hs : x.sn = 0
   · have HNO : Hd (¬ P) := fun hh => ((HPE.o.1 hh).2.2 HG.o).1 hs
     have hsz : ¬ (x.sn : Int) > 0 := by omega
     clear hs
     go_wp2
     go_ret
     exact Tells.no HNO.o HB1.o
   have HSN := iH hs
   have hsz : (x.sn : Int) > 0 := by omega
   clear hs
   go_wp2_with fail
   refine (HCT.o _ v' L' W1.heap.size HV1.o (by have := HLl.o; omega)).mono ?_
   rintro e w3 ⟨q3, rfl, hq3, hb3⟩
   have HB3 := iH (bl_trans HB1.o hb3)
   clear hb3 HX1 HB1 HV1 y2
   cases q3 with
   | true =>
    have HNO : Hd (¬ P) := fun hh => by
     obtain ⟨i, hi, h0, hm⟩ := hq3.1 rfl
     exact hm (by rw [HRr.o, grpL_mem]; exact ((HPE.o.1 hh).2.2 HG.o).2 i hi h0)
    clear hq3
    go_wp2
    go_ret
    exact Tells.no HNO.o HB3.o
   | false =>
    have HY : Hd P := HPE.o.2 ⟨h4, HOr.o, fun _ => ⟨HSN.o, fun i hi h0 => Classical.byContradiction fun hc => by
     have h1 := hq3.2 ⟨i, hi, h0, fun hm => hc (by rw [HRr.o, grpL_mem] at hm; exact hm)⟩
     cases h1⟩⟩
    clear hq3
    go_wp2
    go_ret
    exact Tells.yes HY.o HB3.o
 have hlkz : (k : Int) < (x.gn : Int) := by omega
 obtain ⟨b, off, hsa, _, hlt, hck⟩ := HR.o.resolve_left (by omega)
 have y0 : wr.cell? ⟨b, off + k, none⟩ = some (.slice (x.grp k).a (x.grp k).len (x.grp k).cap) := (HVr.o.bl.cell (p := ⟨b, off + k, none⟩) hlt).trans (by have h1 := hck k hlk 0 _ rfl; rwa [Nat.mul_one, Nat.add_zero] at h1)
 rw [hsa]
 have yl := HVr.o.cell
 clear hck hsa
 go_wp2_with fail
 refine (has_any v' L' (x.grp k) W1.heap.size w0 _ HVr.o.vl HVr.o.bl (HVX.o k hlk) (by have := HLl.o; omega)).mono ?_
 rintro e w1 ⟨q1, rfl, hq1, hb1⟩
 have HB1 := iH (bl_trans HBw.o hb1)
 have HV1 := iH (HVr.o.below hb1)
 have HK1 := iH (HBr.o.trans (hb1.mono HBr.o.size))
 clear hb1 HVr HBr HBw y0 yl
 cases q1 with
 | true =>
  have HNO : Hd (¬ P) := fun hh => ((HPE.o.1 hh).2.1 k hlk).2 (by have h1 := hq1.1 rfl; unfold InL at h1; rw [HRr.o, grpL_mem] at h1; exact h1)
  clear hq1
  go_wp2
  go_ret
  exact Tells.no HNO.o HB1.o
 | false =>
  have HNI : Hd ((x.grp k).b ∉ grpL x k) := fun hh => by
   have h1 := hq1.2 (show _ ∈ _ by rw [HRr.o]; exact hh)
   cases h1
  clear hq1
  go_wp2_with fail
  refine (HHas.o k hlk _ HB1.o).mono ?_
  rintro e w3 ⟨q3, rfl, hq3, hb3⟩
  have HB3 := iH (bl_trans HB1.o hb3)
  have HV3 := iH (HV1.o.below hb3)
  have HK3 := iH (HK1.o.trans (hb3.mono HK1.o.size))
  clear hb3 HV1 HK1 HB1
  cases q3
  · have HNO : Hd (¬ P) := fun hh => by have h1 := hq3.2 ((HPE.o.1 hh).2.1 k hlk).1; cases h1
    clear hq3
    go_wp2
    go_ret
    exact Tells.no HNO.o HB3.o
  have HIN := iH (hq3.1 rfl)
  clear hq3
  go_wp2_with fail
  refine (add_any v' L' (x.grp k) W1.heap.size W1.heap.size w0 _ HV3.o (HVX.o k hlk) (by have := HLl.o; omega)).mono ?_
  rintro e z5 ⟨v5, L5, rfl, hV5, hR5, hK5⟩
  have HR5 : Hd (L5.map SL.b = grpL x (k + 1)) := (show _ = grpL x k ++ [(x.grp k).b] by
   rw [hR5, HRr.o]
   exact if_neg (fun h => by
    rcases h with h | h
    · exact name_pos (HNM.o _ HIN.o) h
    exact HNI.o h))
  have HV5 := iH hV5
  have HB5 := iH (HK3.o.trans (hK5.low (fun c hc => (HV3.o.vl.lo c hc).1) nR HK3.o.size))
  have HO5 : Hd (∀ j, j < k + 1 → (x.grp j).b ∈ body ∧ ¬ inG x j (x.grp j).b) := fun j hj => by
   by_cases e : j = k
   · subst e
     exact ⟨HIN.o, fun h => HNI.o ((grpL_mem x j _).2 h)⟩
   exact HOr.o j (by omega)
  clear hV5 hR5 hK5 HV3 HB3 HK3
  go_wp2
  go_roundw
  case rel => exact ⟨k + 1, v5, L5, by omega, by go_num, HR5, HV5, HB5, HO5⟩
  case measure => simp [intOf]; omega
end Go.Proofs.YthljoojcpbignaaGreatDoor
