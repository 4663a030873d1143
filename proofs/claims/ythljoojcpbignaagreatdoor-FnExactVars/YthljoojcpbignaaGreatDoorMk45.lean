import Derived.Test.YthljoojcpbignaaGreatDoorMk44
namespace Go.Proofs.YthljoojcpbignaaGreatDoor
open Go.RowKit Go.Deep
set_option maxHeartbeats 40000000
set_option maxRecDepth 100000
def ubNa (f : Nat → UT) (i : Nat) : Prop := ¬ ((f i).d.k = 5 ∧ (f i).d.v.b ∈ foldN i (fun j acc => aB (f j) acc) [])
def ubda : UT → Prop
 | .nil => True
 | .mk d ka kb => (∀ i, i < d.an → ubNa ka i ∧ ubda (ka i)) ∧ ∀ i, i < d.bn → ubNa kb i ∧ ubda (kb i)
def gBda (n : Nat) (f : Nat → UT) : Prop := ∀ i, i < n → ubNa f i ∧ ubda (f i)
theorem ubda_at {e : UT} (h : e ≠ .nil) (hu : ubda e) : gBda e.d.an e.ka ∧ gBda e.d.bn e.kb := by
 cases e with
 | nil => exact absurd rfl h
 | mk d ka kb => exact hu
theorem ubda_mk {e : UT} (h : e ≠ .nil) (h1 : gBda e.d.an e.ka) (h2 : gBda e.d.bn e.kb) : ubda e := by
 cases e with
 | nil => exact absurd rfl h
 | mk d ka kb => exact ⟨h1, h2⟩
def GBa (w0 : World) (e : UT) : Prop :=
 (∀ (W : World), Bl w0 W → Calls Tryz.prog 43 #[.slice e.d.aa e.d.an e.d.ac] W (Tells (gBda e.d.an e.ka) W)) ∧
 (∀ (W : World), Bl w0 W → Calls Tryz.prog 43 #[.slice e.d.ba e.d.bn e.d.bc] W (Tells (gBda e.d.bn e.kb) W))
theorem bindsAfresh_of (a : Option Addr) (cap n : Nat) (kid : Nat → UT) (w0 w : World) (hn : n ≤ 1048576) (hR : KRow 0 w0 28 a n (fun i => (kid i).d.cells)) (hk : ∀ i, i < n → (kid i).lies 0 w0) (hw : Bl w0 w) (hm : sumN n (fun i => uc (kid i)) ≤ 1000000)
 (IH : ∀ i, i < n → GBa w0 (kid i)) :
 Calls Tryz.prog 43 #[.slice a n cap] w (Tells (gBda n kid) w) := by
 have HV : Hd (VQ w0 (w.alloc (.cells #[.slice none 0 0] 55)) w.heap.size w.heap.size (.slice none 0 0) []) := vq_nw hw _
 have HB : Hd (Bl w (w.alloc (.cells #[.slice none 0 0] 55))) := bl_a _
 have HR := iH hR
 have HI := iH IH
 have HKL := iH hk
 have HEL := iH (fun i (hi : i < n) => (hk i hi).parts.2.2)
 have HNE := iH (fun i (hi : i < n) => (hk i hi).ne)
 have HLK : Hd (∀ k, k < n → (foldN k (fun j acc => aB (kid j) acc) []).length + uc (kid k) ≤ 1000000) := fun k hk => by
  have h1 := foldN_len (f := (fun j acc => aB (kid j) acc)) (c := fun i => uc (kid i)) (n := k) (fun i l _ => aB_len (kid i) l) []
  have h3 := sumN_mono (f := fun i => uc (kid i)) (show k + 1 ≤ n by omega)
  have h4 : sumN (k + 1) (fun i => uc (kid i)) = sumN k (fun i => uc (kid i)) + uc (kid k) := rfl
  simp only [List.length_nil] at h1
  omega
 clear hR IH hk hw hm
 go_in
 go_wp2_with fail
 go_loopw [8] (fun i wr => ∃ (k : Nat) (v' : Value) (L' : List SL), k ≤ n ∧ i = .int .i64 k ∧ Hd (L'.map SL.b = foldN k (fun j acc => aB (kid j) acc) []) ∧ Hd (VQ w0 wr w.heap.size w.heap.size v' L') ∧ Hd (Bl w wr) ∧ Hd (∀ j, j < k → ubNa kid j ∧ ubda (kid j))) (fun i _ => n - (intOf i).toNat)
 case atStart => exact ⟨0, _, [], nZ, rfl, rfl, HV, HB, fun j hj => absurd hj nN⟩
 clear HV HB
 obtain ⟨k, v', L', hk, rfl, HRr, HVr, HBr, HOr⟩ := hrel
 by_cases hlk : k < n
 rotate_left
 · obtain rfl : k = n := by omega
   have hlkz : ¬ (k : Int) < (k : Int) := by omega
   have HY : Hd (gBda k kid) := HOr
   go_wp2
   go_ret
   exact Tells.yes HY.o HBr.o
 have hlkz : (k : Int) < (n : Int) := by omega
 obtain ⟨b, off, rfl, _, hlt, hck⟩ := HR.o.resolve_left (by omega)
 have hcx : wr.rangeAt b (off + k * 28) (kid k).d.cl := fun c u hu => (HVr.o.bl.cell (p := ⟨b, off + k * 28 + c, none⟩) hlt).trans (hck k hlk c u hu)
 have hth := (OB.new wr zUa 103).there 0 28 (by simp)
 have one1 : ((kid k).d.ar : Array Value).all (·.oneCell') = true := UN.one (kid k).d
 have HBk : Hd (Bl wr ((wr.alloc (.cells zUa 103)).setCells wr.heap.size 0 (kid k).d.cl)) := below_sets _ nR _ _ _ (bl_a _)
 have HQ0 : Hd (QS w0 wr w.heap.size w.heap.size v' v' L' (kid k).d.cells ((wr.alloc (.cells zUa 103)).setCells wr.heap.size 0 (kid k).d.cl)) := ⟨HVr.o.below HBk.o, KQ.of_below HBk.o, ((OB.new wr zUa 103).put (kid k).d.cl 0 (kid k).d.cl (show 0 + 28 ≤ 28 by omega) rfl).box, fun e => by have := (HVr.o.vl.lo _ e).2; omega, HVr.o.lt⟩
 have HB0 := iH (HBr.o.trans (HBk.o.mono HBr.o.size))
 have HLl : Hd (L'.length + uc (kid k) ≤ 1000000) := (show _ ≤ 1000000 by have h1 := HLK.o k hlk; have h2 := congrArg List.length HRr.o; rw [List.length_map] at h2; omega)
 have HIK := iH (HI.o k hlk)
 go_wp2_with (first | (with_reducible refine wpq_at ?_; refine wpList_load_mid rfl 103 _ rfl b (off + k * 28) rfl (kid k).d.cl _ hcx Tryz.underlying103 rfl (by kernel_rfl) ?_; try simp only [Act.put, sA, zA, cA]) | (with_reducible refine wpq_at ?_; refine store_stop 103 (.tmp 5) (.tmp 11) rfl ?_))
 change wpList _ _ _ _ _ _
 refine wpList_store_mid rfl 103 _ _ rfl wr.heap.size 0 (kid k).d.ar rfl rfl hth (by kernel_rfl) one1 ?_
 try simp only [Act.put]
 generalize ((wr.alloc (.cells zUa 103)).setCells wr.heap.size 0 (kid k).d.cl) = W1 at *
 clear hcx hth one1 hck HBk
 have x0 := HQ0.o.bx.2 0 _ rfl
 by_cases k5 : (kid k).d.k = 5
 · have H5 := iH k5
   have b5 : ((kid k).d.k == 5) = true := by simp [k5]
   have y24 := HQ0.o.bx.2 24 _ rfl
   have yl := HQ0.o.vq.cell
   clear k5
   go_wp2_with fail
   refine (has_any v' L' (kid k).d.v w.heap.size w0 _ HQ0.o.vq.vl HQ0.o.vq.bl (HEL.o k hlk) (by have := HLl.o; omega)).mono ?_
   rintro e w1 ⟨q1, rfl, hq1, hb1⟩
   have HQ1 := iH (HQ0.o.below hb1)
   have HB1 := iH (HB0.o.trans (hb1.mono HB0.o.size))
   clear hb1 HQ0 HB0 y24 yl x0
   cases q1 with
   | true =>
    have HNO : Hd (¬ gBda n kid) := fun hh => (hh k hlk).1 ⟨H5.o, by have h1 := hq1.1 rfl; unfold InL at h1; rw [HRr.o] at h1; exact h1⟩
    clear hq1
    go_wp2
    go_ret
    exact Tells.no HNO.o HB1.o
   | false =>
    have HU : Hd (ubNa kid k) := fun hh => by
     have h1 := hq1.2 (show _ ∈ _ by rw [HRr.o]; exact hh.2)
     cases h1
    clear hq1
    have y26 := HQ1.o.bx.2 26 _ rfl
    go_wp2_with fail
    refine (HIK.o.1 _ HQ1.o.vq.bl).mono ?_
    rintro e wa ⟨qa, rfl, hqa, hba⟩
    have HQa := iH (HQ1.o.below hba)
    have HBa := iH (HB1.o.trans (hba.mono HB1.o.size))
    clear hba HQ1 HB1 y26
    cases qa
    · have HNO : Hd (¬ gBda n kid) := fun hh => by have h1 := hqa.2 (ubda_at (HNE.o k hlk) (hh k hlk).2).1; cases h1
      clear hqa
      go_wp2
      go_ret
      exact Tells.no HNO.o HBa.o
    have HOA := iH (hqa.1 rfl)
    clear hqa
    have y27 := HQa.o.bx.2 27 _ rfl
    go_wp2_with fail
    refine (HIK.o.2 _ HQa.o.vq.bl).mono ?_
    rintro e wb ⟨qb, rfl, hqb, hbb⟩
    have HQb := iH (HQa.o.below hbb)
    have HBb := iH (HBa.o.trans (hbb.mono HBa.o.size))
    clear hbb HQa HBa y27
    cases qb
    · have HNO : Hd (¬ gBda n kid) := fun hh => by have h1 := hqb.2 (ubda_at (HNE.o k hlk) (hh k hlk).2).2; cases h1
      clear hqb
      go_wp2
      go_ret
      exact Tells.no HNO.o HBb.o
    have HOB := iH (hqb.1 rfl)
    clear hqb
    have lr := HQb.o.bx.range 0 (kid k).d.cl rfl
    go_wp2_with (with_reducible refine wpq_at ?_; refine wpList_load_mid rfl 103 _ rfl wr.heap.size 0 rfl (kid k).d.cl _ lr Tryz.underlying103 rfl (by kernel_rfl) ?_; try simp only [Act.put, sA, zA, cA])
    refine (addBound_any (kid k) v' L' w.heap.size w.heap.size w0 _ (HKL.o k hlk) HQb.o.vq HLl.o).mono ?_
    rintro e z5 ⟨v5, L5, rfl, hV5, hR5, hK5⟩
    have HQ5 := iH (HQb.o.step hV5 hK5)
    have HR5 : Hd (L5.map SL.b = foldN (k + 1) (fun j acc => aB (kid j) acc) []) := (show _ = aB (kid k) _ by rw [hR5, HRr.o])
    have HV5 := iH hV5
    have HB5 := iH (HBr.o.trans (HQ5.o.kq.low (fun c hc => (HVr.o.vl.lo c hc).1) nR HBr.o.size))
    have HO5 : Hd (∀ j, j < k + 1 → ubNa kid j ∧ ubda (kid j)) := fun j hj => by
     by_cases e : j = k
     · subst e
       exact ⟨HU.o, ubda_mk (HNE.o j hlk) HOA.o HOB.o⟩
     exact HOr.o j (by omega)
    clear hV5 hR5 hK5 HQb HBb lr HQ5 HVr HBr
    go_wp2
    go_roundw
    case rel => exact ⟨k + 1, v5, L5, by omega, by go_num, HR5, HV5, HB5, HO5⟩
    case measure => simp [intOf]; omega
 have b5 : ((kid k).d.k == 5) = false := by simp [k5]
 have HU : Hd (ubNa kid k) := fun hh => k5 hh.1
 clear k5
 have y26 := HQ0.o.bx.2 26 _ rfl
 go_wp2_with fail
 refine (HIK.o.1 _ HQ0.o.vq.bl).mono ?_
 rintro e wa ⟨qa, rfl, hqa, hba⟩
 have HQa := iH (HQ0.o.below hba)
 have HBa := iH (HB0.o.trans (hba.mono HB0.o.size))
 clear hba HQ0 HB0 y26
 cases qa
 · have HNO : Hd (¬ gBda n kid) := fun hh => by have h1 := hqa.2 (ubda_at (HNE.o k hlk) (hh k hlk).2).1; cases h1
   clear hqa
   go_wp2
   go_ret
   exact Tells.no HNO.o HBa.o
 have HOA := iH (hqa.1 rfl)
 clear hqa
 have y27 := HQa.o.bx.2 27 _ rfl
 go_wp2_with fail
 refine (HIK.o.2 _ HQa.o.vq.bl).mono ?_
 rintro e wb ⟨qb, rfl, hqb, hbb⟩
 have HQb := iH (HQa.o.below hbb)
 have HBb := iH (HBa.o.trans (hbb.mono HBa.o.size))
 clear hbb HQa HBa y27
 cases qb
 · have HNO : Hd (¬ gBda n kid) := fun hh => by have h1 := hqb.2 (ubda_at (HNE.o k hlk) (hh k hlk).2).2; cases h1
   clear hqb
   go_wp2
   go_ret
   exact Tells.no HNO.o HBb.o
 have HOB := iH (hqb.1 rfl)
 clear hqb
 have lr := HQb.o.bx.range 0 (kid k).d.cl rfl
 go_wp2_with (with_reducible refine wpq_at ?_; refine wpList_load_mid rfl 103 _ rfl wr.heap.size 0 rfl (kid k).d.cl _ lr Tryz.underlying103 rfl (by kernel_rfl) ?_; try simp only [Act.put, sA, zA, cA])
 refine (addBound_any (kid k) v' L' w.heap.size w.heap.size w0 _ (HKL.o k hlk) HQb.o.vq HLl.o).mono ?_
 rintro e z5 ⟨v5, L5, rfl, hV5, hR5, hK5⟩
 have HQ5 := iH (HQb.o.step hV5 hK5)
 have HR5 : Hd (L5.map SL.b = foldN (k + 1) (fun j acc => aB (kid j) acc) []) := (show _ = aB (kid k) _ by rw [hR5, HRr.o])
 have HV5 := iH hV5
 have HB5 := iH (HBr.o.trans (HQ5.o.kq.low (fun c hc => (HVr.o.vl.lo c hc).1) nR HBr.o.size))
 have HO5 : Hd (∀ j, j < k + 1 → ubNa kid j ∧ ubda (kid j)) := fun j hj => by
  by_cases e : j = k
  · subst e
    exact ⟨HU.o, ubda_mk (HNE.o j hlk) HOA.o HOB.o⟩
  exact HOr.o j (by omega)
 clear hV5 hR5 hK5 HQb HBb lr HQ5 HVr HBr
 go_wp2
 go_roundw
 case rel => exact ⟨k + 1, v5, L5, by omega, by go_num, HR5, HV5, HB5, HO5⟩
 case measure => simp [intOf]; omega
theorem bindsAfresh_any (e : UT) : ∀ (w0 : World), e.lies 0 w0 → uc e ≤ 1000000 → GBa w0 e := by
 induction e with
 | nil => exact fun _ h => False.elim h
 | mk d ka kb ia ib =>
  intro w0 hl hm
  obtain ⟨_, _, _, _, _, ⟨an, aR⟩, ⟨bn, bR⟩, hka, hkb⟩ := hl
  have hu : uc (.mk d ka kb) = 3 + esz d.e + 1 + (sumN d.an (fun i => uc (ka i)) + sumN d.bn (fun i => uc (kb i))) := rfl
  exact ⟨fun W h1 => bindsAfresh_of d.aa d.ac d.an ka w0 W an aR hka h1 (by omega) fun i hi => ia i w0 (hka i hi) (by have h3 := sumN_mono (f := fun i => uc (ka i)) (show i + 1 ≤ d.an by omega); have h4 : sumN (i + 1) (fun i => uc (ka i)) = sumN i (fun i => uc (ka i)) + uc (ka i) := rfl; omega),
   fun W h1 => bindsAfresh_of d.ba d.bc d.bn kb w0 W bn bR hkb h1 (by omega) fun i hi => ib i w0 (hkb i hi) (by have h3 := sumN_mono (f := fun i => uc (kb i)) (show i + 1 ≤ d.bn by omega); have h4 : sumN (i + 1) (fun i => uc (kb i)) = sumN i (fun i => uc (kb i)) + uc (kb i) := rfl; omega)⟩
theorem foldN_ext {α : Type} {n : Nat} {f g : Nat → α → α} (h : ∀ i a, i < n → f i a = g i a) (l : α) : foldN n f l = foldN n g l := by
 induction n with
 | zero => rfl
 | succ n ih =>
  show f n (foldN n f l) = g n (foldN n g l)
  rw [ih (fun i a hi => h i a (by omega)), h n _ (by omega)]
theorem foldN_two {α : Type} (f g : Nat → α → α) (a b : Nat) (l : α) : foldN (a + b) (fun i acc => if i < a then f i acc else g (i - a) acc) l = foldN b g (foldN a f l) := by
 induction b with
 | zero => exact foldN_ext (fun i acc hi => if_pos hi) l
 | succ b ih =>
  show (if a + b < a then f (a + b) _ else g (a + b - a) (foldN (a + b) _ l)) = g b (foldN b g (foldN a f l))
  rw [if_neg (by omega), Nat.add_sub_cancel_left, ih]
theorem addV_nil (l : List (List Int)) : addV l [] = l := if_pos (.inl rfl)
theorem ptV_zero {p : PB} (h : zeroP p) (l : List (List Int)) : ptV p l = l := by
 unfold ptV
 rw [h.1.1, h.2.1.1, h.2.2.1, addV_nil, addV_nil, addV_nil]
theorem aB_eq (e : UT) : ∀ p, uOk e p → ∀ l, aB e l = bV e l := by
 induction e with
 | nil => exact fun p h => False.elim h
 | mk d ka kb ia ib =>
  intro p h l
  obtain ⟨_, hN, _, ha, hb⟩ := h
  unfold aB bV
  by_cases k0 : d.k = 0
  · rw [if_pos k0, if_neg (by omega), hN.v0 (by unfold hasN; omega), addV_nil]
  rw [if_neg k0, ptV_zero (hN.p0 k0)]
  by_cases k5 : d.k = 5 ∨ d.k = 6
  · rw [if_pos k5, if_neg (by omega)]
  rw [if_neg k5, hN.v0 k5, addV_nil]
  by_cases k1 : d.k = 1 ∨ d.k = 2
  · rw [if_pos k1, if_pos k1]
    refine (foldN_two (fun i acc => aB (ka i) acc) (fun i acc => aB (kb i) acc) d.an d.bn l).trans ?_
    rw [foldN_ext (fun i a hi => ia i _ (ha i hi) a), foldN_ext (fun i a hi => ib i _ (hb i hi) a)]
  rw [if_neg k1, if_neg k1]
theorem ubNa_iff {n : Nat} {f : Nat → UT} {p : Int} (h : ∀ i, i < n → uOk (f i) p) {i : Nat} (hi : i < n) : ubNa f i ↔ ubN f i := by
 unfold ubNa ubN
 rw [foldN_ext (fun j a hj => aB_eq (f j) p (h j (by omega)) a)]
theorem ubda_iff (e : UT) : ∀ p, uOk e p → (ubda e ↔ ubd e) := by
 induction e with
 | nil => exact fun p h => False.elim h
 | mk d ka kb ia ib =>
  intro p h
  obtain ⟨_, _, _, ha, hb⟩ := h
  exact ⟨fun hh => ⟨fun i hi => ⟨(ubNa_iff ha hi).1 (hh.1 i hi).1, (ia i _ (ha i hi)).1 (hh.1 i hi).2⟩, fun i hi => ⟨(ubNa_iff hb hi).1 (hh.2 i hi).1, (ib i _ (hb i hi)).1 (hh.2 i hi).2⟩⟩,
   fun hh => ⟨fun i hi => ⟨(ubNa_iff ha hi).2 (hh.1 i hi).1, (ia i _ (ha i hi)).2 (hh.1 i hi).2⟩, fun i hi => ⟨(ubNa_iff hb hi).2 (hh.2 i hi).1, (ib i _ (hb i hi)).2 (hh.2 i hi).2⟩⟩⟩
theorem gBda_iff {n : Nat} {f : Nat → UT} {p : Int} (h : ∀ i, i < n → uOk (f i) p) : gBda n f ↔ gBd n f :=
 ⟨fun hh i hi => ⟨(ubNa_iff h hi).1 (hh i hi).1, (ubda_iff (f i) p (h i hi)).1 (hh i hi).2⟩, fun hh i hi => ⟨(ubNa_iff h hi).2 (hh i hi).1, (ubda_iff (f i) p (h i hi)).2 (hh i hi).2⟩⟩
theorem selOk_any (x : SE) (vb : Value) (Lb : List SL) (body : List (List Int)) (B : Nat) (w0 w : World) (hx : x.lies 0 w0) (hV : VL w0 w B vb Lb) (hw : Bl w0 w) (hbd : Lb.map SL.b = body) (hl : Lb.length ≤ 1048576) :
 Calls Tryz.prog 109 #[.agg x.ar, vb] w (Tells (SelP body x) w) := by
 try unfold SE.ar
 have HHas : Hd (∀ (y : SL), BsF 0 w0 y → ∀ W, Bl w W → Cl 71 #[vb, .slice y.a y.len y.cap] W (Tells (y.b ∈ body) W)) := fun y hy W hb => by
  rw [← hbd]
  exact has_any vb Lb y B w0 W (hV.below hb) (hw.trans (hb.mono hw.size)) hy hl
 have HIN := iH (fun W (hb : Bl w W) => isName_any x.v.a x.v.len x.v.cap x.v.b W (hx.2.upper (uB (hw.trans (hb.mono hw.size)))).1)
 have HOF := iH hx.1
 have HVX := iH hx.2
 have HLO := iH (nil_len hx.1.1.1)
 have HX : Hd (Box (w.alloc (.cells x.ar 105)) w.heap.size x.cells) := Box.new w _ 105 (0, 0)
 have HB : Hd (Bl w (w.alloc (.cells x.ar 105))) := bl_a _
 clear hx hV hw hbd hl
 go_in
 go_upto_region 1 with fail
 generalize (w.alloc (.cells x.ar 105)) = W1 at *
 have y0 := HX.o.2 0 _ rfl
 by_cases f0 : x.fn = 0
 · have b0 : (x.fn == 0) = true := by simp [f0]
   have HK := iH f0
   have y1 := HX.o.2 1 _ rfl
   have y2 := HX.o.2 2 _ rfl
   clear f0
   by_cases o0 : x.of.len = 0
   rotate_left
   · have HNO : Hd (¬ SelP body x) := fun hh => by
      rcases hh with h | h
      · exact o0 (HLO.o.1 h.2.1)
      have h1 := h.1; have h2 := HK.o; omega
     have c0 : ((x.of.len : Int) == 0) = false := by simp; omega
     clear o0
     go_wp2
     go_ret
     exact Tells.no HNO.o HB.o
   have HO0 := iH o0
   have c0 : ((x.of.len : Int) == 0) = true := by simp; omega
   clear o0
   go_wp2_with fail
   refine (HHas.o x.v HVX.o _ HB.o).mono ?_
   rintro e w1 ⟨q1, rfl, hq1, hb1⟩
   have HB1 := iH (bl_trans HB.o hb1)
   have HQ : Hd (q1 = true ↔ SelP body x) := (show (q1 = true ↔ _) from hq1.trans ⟨fun h => .inl ⟨HK.o, HLO.o.2 HO0.o, h⟩, fun hh => by
    rcases hh with h | h
    · exact h.2.2
    have h1 := h.1; have h2 := HK.o; omega⟩)
   clear hb1 hq1 HX HB y0 y1 y2
   go_wp2
   go_ret
   exact Tells.of HQ.o HB1.o
 have b0 : (x.fn == 0) = false := by simp [f0]
 by_cases f1 : x.fn = 1
 · have b1 : (x.fn == 1) = true := by simp [f1]
   have HK : Hd (x.fn = 1 ∨ x.fn = 2) := .inl f1
   clear f0 f1
   have y1 := HX.o.2 1 _ rfl
   go_wp2_with fail
   refine (HHas.o x.of HOF.o _ HB.o).mono ?_
   rintro e w1 ⟨q1, rfl, hq1, hb1⟩
   have HX1 := iH (HX.o.below hb1)
   have HB1 := iH (bl_trans HB.o hb1)
   clear hb1 HX HB y1
   cases q1
   · have HNO : Hd (¬ SelP body x) := fun hh => by
      rcases hh with h | h
      · have h1 := h.1; have h2 := HK.o; omega
      have h1 := hq1.2 h.2.1
      cases h1
     clear hq1
     go_wp2
     go_ret
     exact Tells.no HNO.o HB1.o
   have HQ1 := iH (hq1.1 rfl)
   clear hq1
   have y2 := HX1.o.2 2 _ rfl
   go_wp2_with fail
   refine (HIN.o _ HB1.o).mono ?_
   rintro e w2 ⟨rfl, rfl⟩
   obtain ⟨q2, hq2⟩ : ∃ q2, q2 = nameOk x.v.b := ⟨_, rfl⟩
   rw [← hq2]
   cases q2
   · have HNO : Hd (¬ SelP body x) := fun hh => by
      rcases hh with h | h
      · have h1 := h.1; have h2 := HK.o; omega
      have h1 := h.2.2.1
      rw [← hq2] at h1
      cases h1
     clear hq2
     go_wp2
     go_ret
     exact Tells.no HNO.o HB1.o
   have HQ2 := iH hq2.symm
   clear hq2
   go_wp2_with fail
   refine (HHas.o x.v HVX.o _ HB1.o).mono ?_
   rintro e w3 ⟨q3, rfl, hq3, hb3⟩
   have HB3 := iH (bl_trans HB1.o hb3)
   clear hb3 HB1 HX1 y2
   cases q3 with
   | true =>
    have HNO : Hd (¬ SelP body x) := fun hh => by
     rcases hh with h | h
     · have h1 := h.1; have h2 := HK.o; omega
     exact h.2.2.2 (hq3.1 rfl)
    clear hq3
    go_wp2
    go_ret
    exact Tells.no HNO.o HB3.o
   | false =>
    have HY : Hd (SelP body x) := .inr ⟨HK.o, HQ1.o, HQ2.o, fun h => by have h1 := hq3.2 h; cases h1⟩
    clear hq3
    go_wp2
    go_ret
    exact Tells.yes HY.o HB3.o
 have b1 : (x.fn == 1) = false := by simp [f1]
 by_cases f2 : x.fn = 2
 · have b2 : (x.fn == 2) = true := by simp [f2]
   have HK : Hd (x.fn = 1 ∨ x.fn = 2) := .inr f2
   clear f0 f1 f2
   have y1 := HX.o.2 1 _ rfl
   go_wp2_with fail
   refine (HHas.o x.of HOF.o _ HB.o).mono ?_
   rintro e w1 ⟨q1, rfl, hq1, hb1⟩
   have HX1 := iH (HX.o.below hb1)
   have HB1 := iH (bl_trans HB.o hb1)
   clear hb1 HX HB y1
   cases q1
   · have HNO : Hd (¬ SelP body x) := fun hh => by
      rcases hh with h | h
      · have h1 := h.1; have h2 := HK.o; omega
      have h1 := hq1.2 h.2.1
      cases h1
     clear hq1
     go_wp2
     go_ret
     exact Tells.no HNO.o HB1.o
   have HQ1 := iH (hq1.1 rfl)
   clear hq1
   have y2 := HX1.o.2 2 _ rfl
   go_wp2_with fail
   refine (HIN.o _ HB1.o).mono ?_
   rintro e w2 ⟨rfl, rfl⟩
   obtain ⟨q2, hq2⟩ : ∃ q2, q2 = nameOk x.v.b := ⟨_, rfl⟩
   rw [← hq2]
   cases q2
   · have HNO : Hd (¬ SelP body x) := fun hh => by
      rcases hh with h | h
      · have h1 := h.1; have h2 := HK.o; omega
      have h1 := h.2.2.1
      rw [← hq2] at h1
      cases h1
     clear hq2
     go_wp2
     go_ret
     exact Tells.no HNO.o HB1.o
   have HQ2 := iH hq2.symm
   clear hq2
   go_wp2_with fail
   refine (HHas.o x.v HVX.o _ HB1.o).mono ?_
   rintro e w3 ⟨q3, rfl, hq3, hb3⟩
   have HB3 := iH (bl_trans HB1.o hb3)
   clear hb3 HB1 HX1 y2
   cases q3 with
   | true =>
    have HNO : Hd (¬ SelP body x) := fun hh => by
     rcases hh with h | h
     · have h1 := h.1; have h2 := HK.o; omega
     exact h.2.2.2 (hq3.1 rfl)
    clear hq3
    go_wp2
    go_ret
    exact Tells.no HNO.o HB3.o
   | false =>
    have HY : Hd (SelP body x) := .inr ⟨HK.o, HQ1.o, HQ2.o, fun h => by have h1 := hq3.2 h; cases h1⟩
    clear hq3
    go_wp2
    go_ret
    exact Tells.yes HY.o HB3.o
 have b2 : (x.fn == 2) = false := by simp [f2]
 have HNO : Hd (¬ SelP body x) := fun hh => by
  rcases hh with h | h
  · exact f0 h.1
  have h1 := h.1; omega
 go_wp2
 go_ret
 exact Tells.no HNO.o HB.o
end Go.Proofs.YthljoojcpbignaaGreatDoor
