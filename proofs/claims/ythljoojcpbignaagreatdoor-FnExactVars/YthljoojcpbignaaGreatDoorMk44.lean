import Derived.Test.YthljoojcpbignaaGreatDoorMk43
namespace Go.Proofs.YthljoojcpbignaaGreatDoor
open Go.RowKit Go.Deep
set_option maxHeartbeats 40000000
set_option maxRecDepth 100000
def aB : UT → List (List Int) → List (List Int)
 | .nil, l => l
 | .mk d ka kb, l => if d.k = 0 then ptV d.p l else if d.k = 5 ∨ d.k = 6 then addV l d.v.b else if d.k = 1 ∨ d.k = 2 then foldN (d.an + d.bn) (fun i acc => if i < d.an then aB (ka i) acc else aB (kb (i - d.an)) acc) l else l
theorem sumN_two (f g : Nat → Nat) (a : Nat) : ∀ b, sumN (a + b) (fun i => if i < a then f i else g (i - a)) = sumN a f + sumN b g := by
 intro b
 induction b with
 | zero =>
  show sumN a _ = sumN a f + 0
  have : ∀ m, m ≤ a → sumN m (fun i => if i < a then f i else g (i - a)) = sumN m f := by
   intro m
   induction m with
   | zero => intro _; rfl
   | succ m ih =>
    intro h
    show sumN m _ + (if m < a then f m else g (m - a)) = sumN m f + f m
    rw [ih (by omega), if_pos (by omega)]
  rw [this a nR]; rfl
 | succ b ih =>
  show sumN (a + b) _ + (if a + b < a then f (a + b) else g (a + b - a)) = sumN a f + (sumN b g + g b)
  rw [ih, if_neg (by omega), Nat.add_sub_cancel_left, Nat.add_assoc]
theorem aB_len (e : UT) : ∀ l, (aB e l).length ≤ l.length + uc e := by
 induction e with
 | nil => exact fun l => nR
 | mk d ka kb ia ib =>
  intro l
  have hu : uc (.mk d ka kb) = 3 + esz d.e + 1 + (sumN d.an (fun i => uc (ka i)) + sumN d.bn (fun i => uc (kb i))) := rfl
  unfold aB
  split
  · have h1 := ptV_len d.p l
    omega
  split
  · have h1 := addV_len l d.v.b
    omega
  split
  · have h1 := foldN_len (f := fun i acc => if i < d.an then aB (ka i) acc else aB (kb (i - d.an)) acc) (c := fun i => if i < d.an then uc (ka i) else uc (kb (i - d.an))) (n := d.an + d.bn) (fun i l _ => by
     show (if i < d.an then aB (ka i) l else aB (kb (i - d.an)) l).length ≤ l.length + (if i < d.an then uc (ka i) else uc (kb (i - d.an)))
     by_cases h : i < d.an
     · rw [if_pos h, if_pos h]; exact ia i l
     rw [if_neg h, if_neg h]; exact ib (i - d.an) l) l
    have h2 := sumN_two (fun i => uc (ka i)) (fun i => uc (kb i)) d.an d.bn
    omega
  omega
theorem OwnU.row {w : World} {B : Nat} {v : Value} {a b : Nat → UN} {an bn : Nat} (h : OwnU w B v (rowU a an ++ rowU b bn)) : (v = .slice none 0 0 ∧ an + bn = 0) ∨ ∃ rb cap, v = .slice (some ⟨rb, 0, none⟩) (an + bn) cap ∧ B ≤ rb ∧ rb < w.heap.size ∧ ∀ i, i < an + bn → ∀ c u, ((if i < an then a i else b (i - an)).cells)[c]? = some u → w.cell? ⟨rb, i * 28 + c, none⟩ = some u := by
 have hl : (rowU a an ++ rowU b bn).length = an + bn := by simp [rowU]
 rcases h.form with ⟨hv, h0⟩ | ⟨g, cap, hv, hB, hlt, hle, hc⟩
 · left
   rw [h0] at hl
   exact ⟨hv, hl.symm⟩
 right
 rw [hl] at hv
 refine ⟨g, cap, hv, hB, hlt, fun i hi c u hu => hc _ _ ?_⟩
 have hcl : c < 28 := (List.getElem?_eq_some_iff.1 hu).1
 rw [flatU_get _ i c (by rw [hl]; exact hi) hcl, ← hu]
 by_cases h : i < an
 · rw [if_pos h, List.getElem_append_left (by simpa [rowU] using h)]
   simp [rowU]
 rw [if_neg h, List.getElem_append_right (by simp [rowU]; omega)]
 simp [rowU]
theorem addBound_any (e : UT) : ∀ (v : Value) (L : List SL) (B g : Nat) (w0 w : World), e.lies 0 w0 → VQ w0 w B g v L → L.length + uc e ≤ 1000000 →
 Calls Tryz.prog 72 #[.pointer (some ⟨g, 0, none⟩), .agg e.d.ar] w (AddQ w0 B g v (aB e (L.map SL.b)) w) := by
 try unfold UN.ar
 induction e with
 | nil => exact fun _ _ _ _ _ _ h => False.elim h
 | mk d ka kb ia ib =>
  intro v L B g w0 w hl h hm
  show Calls Tryz.prog 72 #[.pointer (some ⟨g, 0, none⟩), .agg d.ar] w (AddQ w0 B g v (aB (.mk d ka kb) (L.map SL.b)) w)
  obtain ⟨hp, he, hv, _, _, ⟨han, aR⟩, ⟨hbn, bR⟩, hka, hkb⟩ := id hl
  have hu : uc (.mk d ka kb) = 3 + esz d.e + 1 + (sumN d.an (fun i => uc (ka i)) + sumN d.bn (fun i => uc (kb i))) := rfl
  obtain ⟨KI, hKI⟩ : ∃ KI : Nat → UT, ∀ i, KI i = if i < d.an then ka i else kb (i - d.an) := ⟨fun i => if i < d.an then ka i else kb (i - d.an), fun _ => rfl⟩
  obtain ⟨n, hnn⟩ : ∃ n, n = d.an + d.bn := ⟨_, rfl⟩
  have HNN := iH hnn
  have hn2 : n ≤ 2097152 := by omega
  have HKI := iH hKI
  have HIH : Hd (∀ i, i < n → ∀ (v' : Value) (L' : List SL) (W : World), VQ w0 W B g v' L' → L'.length + uc (KI i) ≤ 1000000 → Cl 72 #[.pointer (some ⟨g, 0, none⟩), .agg (KI i).d.ar] W (AddQ w0 B g v' (aB (KI i) (L'.map SL.b)) W)) := fun i hi v' L' W hV hL => by
   by_cases h : i < d.an
   · rw [show KI i = ka i by rw [hKI, if_pos h]] at hL ⊢
     exact ia i v' L' B g w0 W (hka i h) hV hL
   rw [show KI i = kb (i - d.an) by rw [hKI, if_neg h]] at hL ⊢
   exact ib (i - d.an) v' L' B g w0 W (hkb _ (by omega)) hV hL
  have HFE : Hd (∀ m l, foldN m (fun i acc => if i < d.an then aB (ka i) acc else aB (kb (i - d.an)) acc) l = foldN m (fun i acc => aB (KI i) acc) l) := fun m l => by
   congr 1
   funext i acc
   rw [hKI]
   split <;> rfl
  have HLK : Hd (∀ k, k < n → (foldN k (fun i acc => aB (KI i) acc) (L.map SL.b)).length + uc (KI k) ≤ 1000000) := fun k hk => by
   have h1 := foldN_len (f := (fun i acc => aB (KI i) acc)) (c := fun i => uc (KI i)) (n := k) (fun i l _ => aB_len (KI i) l) (L.map SL.b)
   rw [List.length_map] at h1
   have h3 := sumN_mono (f := fun i => uc (KI i)) (show k + 1 ≤ n by omega)
   have h4 : sumN (k + 1) (fun i => uc (KI i)) = sumN k (fun i => uc (KI i)) + uc (KI k) := rfl
   have h5 : sumN n (fun i => uc (KI i)) = sumN d.an (fun i => uc (ka i)) + sumN d.bn (fun i => uc (kb i)) := by
    rw [← sumN_two, hnn]
    congr 1
    funext i
    rw [hKI]
    split <;> rfl
   omega
  have HQ0 : Hd (QS w0 w B g v v L d.cells (w.alloc (.cells d.ar 103))) := QS.new h _ 103
  have HPX := iH hp
  have HVX := iH hv
  have HAR := iH aR
  have HBR := iH bR
  have HLN : Hd (L.length + 4 ≤ 1000000) := (show _ ≤ _ by omega)
  clear ia ib hl h hp he hv aR bR hka hkb hm hu hKI hnn
  go_in
  go_upto_region 1 with fail
  generalize (w.alloc (.cells d.ar 103)) = W1 at *
  have x0 := HQ0.o.bx.2 0 _ rfl
  by_cases k0 : d.k = 0
  · have HA : Hd (aB (.mk d ka kb) (L.map SL.b) = ptV d.p (L.map SL.b)) := if_pos k0
    have b0 : (d.k == 0) = true := by simp [k0]
    have lp := HQ0.o.bx.range 1 d.p.cl rfl
    clear k0
    go_wp2_with (with_reducible refine wpq_at ?_; refine ldr rfl rfl rfl Tryz.underlying97 lp rfl ?_; try simp only [Act.put, sA, zA, cA])
    refine (addPat_any v L d.p B g w0 _ HQ0.o.vq HPX.o (by have := HLN.o; omega)).mono ?_
    rintro e z1 ⟨v1, L1, rfl, hV1, hR1, hK1⟩
    have HQ1 := iH (HQ0.o.step hV1 hK1)
    have HR1 : Hd (L1.map SL.b = aB (.mk d ka kb) (L.map SL.b)) := (show _ = _ by rw [hR1, HA.o])
    clear hV1 hR1 hK1 HQ0 lp
    go_wp2
    go_end0
    exact ⟨v1, L1, rfl, HQ1.o.vq, HR1.o, HQ1.o.kq⟩
  have b0 : (d.k == 0) = false := by simp [k0]
  by_cases k5 : d.k = 5
  · have HA : Hd (aB (.mk d ka kb) (L.map SL.b) = addV (L.map SL.b) d.v.b) := (if_neg k0).trans (if_pos (by omega))
    have b5 : (d.k == 5) = true := by simp [k5]
    have y24 := HQ0.o.bx.2 24 _ rfl
    clear k5
    go_wp2_with fail
    refine (add_any v L d.v B g w0 _ HQ0.o.vq HVX.o (by have := HLN.o; omega)).mono ?_
    rintro e z1 ⟨v1, L1, rfl, hV1, hR1, hK1⟩
    have HQ1 := iH (HQ0.o.step hV1 hK1)
    have HR1 : Hd (L1.map SL.b = aB (.mk d ka kb) (L.map SL.b)) := (show _ = _ by rw [hR1, HA.o])
    clear hV1 hR1 hK1 HQ0 y24
    go_wp2
    go_end0
    exact ⟨v1, L1, rfl, HQ1.o.vq, HR1.o, HQ1.o.kq⟩
  have b5 : (d.k == 5) = false := by simp [k5]
  by_cases k6 : d.k = 6
  · have HA : Hd (aB (.mk d ka kb) (L.map SL.b) = addV (L.map SL.b) d.v.b) := (if_neg k0).trans (if_pos (by omega))
    have b6 : (d.k == 6) = true := by simp [k6]
    have y24 := HQ0.o.bx.2 24 _ rfl
    clear k6
    go_wp2_with fail
    refine (add_any v L d.v B g w0 _ HQ0.o.vq HVX.o (by have := HLN.o; omega)).mono ?_
    rintro e z1 ⟨v1, L1, rfl, hV1, hR1, hK1⟩
    have HQ1 := iH (HQ0.o.step hV1 hK1)
    have HR1 : Hd (L1.map SL.b = aB (.mk d ka kb) (L.map SL.b)) := (show _ = _ by rw [hR1, HA.o])
    clear hV1 hR1 hK1 HQ0 y24
    go_wp2
    go_end0
    exact ⟨v1, L1, rfl, HQ1.o.vq, HR1.o, HQ1.o.kq⟩
  have b6 : (d.k == 6) = false := by simp [k6]
  by_cases k1 : d.k = 1
  · have HAK : Hd (aB (.mk d ka kb) (L.map SL.b) = foldN n (fun i acc => aB (KI i) acc) (L.map SL.b)) := (show _ = _ from ((if_neg k0).trans ((if_neg (by omega)).trans (if_pos (by omega)))).trans (by rw [HFE.o, HNN.o]))
    have b1 : (d.k == 1) = true := by simp [k1]
    clear k0 k5 k6 k1
    have HA := iH HAK.o
    have y26 := HQ0.o.bx.2 26 _ rfl
    have y27 := HQ0.o.bx.2 27 _ rfl
    go_wp2_with fail
    refine (concatU_any _ d.aa d.ba d.an d.ac d.bn d.bc (fun i => (ka i).d) (fun i => (kb i).d) _ ?h1 ?h2 ?h3 ?h4 ?h5 (by omega) (by omega)).mono ?_
    case h1 => simp
    case h2 => simp [go_sem]
    case h3 => simp [go_sem]
    case h4 => exact RowsU.of HAR.o (HQ0.o.vq.bl.trans ((bl_a _).mono HQ0.o.vq.bl.size))
    case h5 => exact RowsU.of HBR.o (HQ0.o.vq.bl.trans ((bl_a _).mono HQ0.o.vq.bl.size))
    rintro e w2 ⟨vr, rfl, hO2, hb2⟩
    have HQ2 := iH (HQ0.o.below (bl_trans (bl_a _) hb2))
    have hsz2 := Nat.le_of_lt HQ0.o.bx.1
    have hgl := HQ0.o.gw
    have HVO := iH (fun c (hc : v.ownBlock = some c) => (HQ0.o.vq.vl.lo c hc).2)
    rcases hO2.row with ⟨rfl, hz⟩ | ⟨rb, cap, rfl, hrB, hrl, hck⟩
    · have HR0 : Hd (L.map SL.b = aB (.mk d ka kb) (L.map SL.b)) := (show _ = _ by rw [HA.o, HNN.o, hz]; rfl)
      clear hO2 hb2 hz y26 y27 HQ0 hsz2
      go_wp2_with fail
      go_loopw [31] (fun i wr => i = .int .i64 0 ∧ Hd (QS w0 w B g v v L d.cells wr)) (fun _ _ => 0)
      case atStart => exact ⟨rfl, HQ2⟩
      clear HQ2
      obtain ⟨rfl, HQr⟩ := hrel
      go_wp2
      go_end0
      exact ⟨v, L, rfl, HQr.o.vq, HR0.o, HQr.o.kq⟩
    have HCK := iH (fun i (hi : i < n) c u (hu : ((KI i).d.cells)[c]? = some u) => hck i (by rw [← HNN.o]; exact hi) c u (by rw [← hu, HKI.o i]; split <;> rfl))
    have HBV : Hd (rb < w2.heap.size ∧ rb ≠ g ∧ v.ownBlock ≠ some rb) := ⟨hrl, (by simp at hrB; omega), fun e => by have h1 := HVO.o rb e; simp at hrB; omega⟩
    rw [← HNN.o]
    clear hO2 hb2 y26 y27 HQ0 hck hrB hrl hsz2
    go_wp2_with fail
    go_loopw [31] (fun i wr => ∃ (k : Nat) (v' : Value) (L' : List SL), k ≤ n ∧ i = .int .i64 k ∧ Hd (L'.map SL.b = foldN k (fun i acc => aB (KI i) acc) (L.map SL.b)) ∧ Hd (QS w0 w B g v v' L' d.cells wr) ∧ Hd (KQ g v w2 v' wr)) (fun i _ => n - (intOf i).toNat)
    case atStart => exact ⟨0, v, L, nZ, rfl, rfl, HQ2, KQ.of_below brf⟩
    clear HQ2
    obtain ⟨k, v', L', hk, rfl, HRr, HQr, HKr⟩ := hrel
    by_cases hlk : k < n
    rotate_left
    · obtain rfl : k = n := by omega
      have hlkz : ¬ (k : Int) < (k : Int) := by omega
      have HRE : Hd (L'.map SL.b = aB (.mk d ka kb) (L.map SL.b)) := (show _ = _ by rw [HRr.o, HA.o])
      go_wp2
      go_end0
      exact ⟨v', L', rfl, HQr.o.vq, HRE.o, HQr.o.kq⟩
    have hlkz : (k : Int) < (n : Int) := by omega
    have hcx : wr.rangeAt rb (k * 28) (KI k).d.cl := fun c u hu => (World.cell?_of_block (w := w2) (a := ⟨rb, k * 28 + c, none⟩) (HKr.o.block rb HBV.o.1 HBV.o.2.1 HBV.o.2.2)).trans (HCK.o k hlk c u hu)
    have hth := (OB.new wr zUa 103).there 0 28 (by simp)
    have one1 : ((KI k).d.ar : Array Value).all (·.oneCell') = true := UN.one (KI k).d
    have HBk : Hd (Bl wr ((wr.alloc (.cells zUa 103)).setCells wr.heap.size 0 (KI k).d.cl)) := below_sets _ nR _ _ _ (bl_a _)
    have HXk : Hd (Box ((wr.alloc (.cells zUa 103)).setCells wr.heap.size 0 (KI k).d.cl) wr.heap.size (KI k).d.cells) := ((OB.new wr zUa 103).put [.int .i64 (KI k).d.k, .slice _ _ _, .int .i64 _, .slice _ _ _, .int .i64 _, .int .i64 _, .slice _ _ _, .int .i64 _, .slice _ _ _, .int .i64 _, .int .i64 _, .slice _ _ _, .int .i64 _, .slice _ _ _, .int .i64 _, .int .i64 _, .int .i64 _, .int .i64 _, .slice _ _ _, .int .i64 _, .slice _ _ _, .int .i64 _, .int .i64 _, .slice _ _ _, .slice (KI k).d.v.a _ _, .slice (KI k).d.ta _ (KI k).d.tc, .slice (KI k).d.aa (KI k).d.an (KI k).d.ac, .slice (KI k).d.ba (KI k).d.bn (KI k).d.bc] 0 _ (show 0 + 28 ≤ 28 by omega) rfl).box
    have HQ4 := iH (HQr.o.below HBk.o)
    have HK4 := iH (HKr.o.trans (KQ.of_below HBk.o))
    have HLl : Hd (L'.length + uc (KI k) ≤ 1000000) := (show _ ≤ 1000000 by have h1 := HLK.o k hlk; have h2 := congrArg List.length HRr.o; rw [List.length_map] at h2; omega)
    go_wp2_with (first | (with_reducible refine wpq_at ?_; refine wpList_load_mid rfl 103 _ rfl rb (k * 28) rfl (KI k).d.cl _ hcx Tryz.underlying103 rfl (by kernel_rfl) ?_; try simp only [Act.put, sA, zA, cA]) | (with_reducible refine wpq_at ?_; refine store_stop 103 (.tmp 5) (.tmp 34) rfl ?_))
    change wpList _ _ _ _ _ _
    refine wpList_store_mid rfl 103 _ _ rfl wr.heap.size 0 (KI k).d.ar rfl rfl hth (by kernel_rfl) one1 ?_
    try simp only [Act.put]
    generalize ((wr.alloc (.cells zUa 103)).setCells wr.heap.size 0 (KI k).d.cl) = W5 at *
    clear hcx hth one1 HBk HQr HKr
    have lr := HXk.o.range 0 (KI k).d.cl rfl
    go_wp2_with (with_reducible refine wpq_at ?_; refine wpList_load_mid rfl 103 _ rfl wr.heap.size 0 rfl (KI k).d.cl _ lr Tryz.underlying103 rfl (by kernel_rfl) ?_; try simp only [Act.put, sA, zA, cA])
    refine (HIH.o k hlk v' L' _ HQ4.o.vq HLl.o).mono ?_
    rintro e z5 ⟨v5, L5, rfl, hV5, hR5, hK5⟩
    have HQ5 := iH (HQ4.o.step hV5 hK5)
    have HK5 := iH (HK4.o.trans hK5)
    have HR5 : Hd (L5.map SL.b = foldN (k + 1) (fun i acc => aB (KI i) acc) (L.map SL.b)) := (show _ = aB (KI k) _ by rw [hR5, HRr.o])
    clear hV5 hR5 hK5 HQ4 HK4 HXk lr
    go_wp2
    go_roundw
    case rel => exact ⟨k + 1, v5, L5, by omega, by go_num, HR5, HQ5, HK5⟩
    case measure => simp [intOf]; omega
  have b1 : (d.k == 1) = false := by simp [k1]
  by_cases k2 : d.k = 2
  · have HAK : Hd (aB (.mk d ka kb) (L.map SL.b) = foldN n (fun i acc => aB (KI i) acc) (L.map SL.b)) := (show _ = _ from ((if_neg k0).trans ((if_neg (by omega)).trans (if_pos (by omega)))).trans (by rw [HFE.o, HNN.o]))
    have b2 : (d.k == 2) = true := by simp [k2]
    clear k0 k5 k6 k2
    have HA := iH HAK.o
    have y26 := HQ0.o.bx.2 26 _ rfl
    have y27 := HQ0.o.bx.2 27 _ rfl
    go_wp2_with fail
    refine (concatU_any _ d.aa d.ba d.an d.ac d.bn d.bc (fun i => (ka i).d) (fun i => (kb i).d) _ ?h1 ?h2 ?h3 ?h4 ?h5 (by omega) (by omega)).mono ?_
    case h1 => simp
    case h2 => simp [go_sem]
    case h3 => simp [go_sem]
    case h4 => exact RowsU.of HAR.o (HQ0.o.vq.bl.trans ((bl_a _).mono HQ0.o.vq.bl.size))
    case h5 => exact RowsU.of HBR.o (HQ0.o.vq.bl.trans ((bl_a _).mono HQ0.o.vq.bl.size))
    rintro e w2 ⟨vr, rfl, hO2, hb2⟩
    have HQ2 := iH (HQ0.o.below (bl_trans (bl_a _) hb2))
    have hsz2 := Nat.le_of_lt HQ0.o.bx.1
    have hgl := HQ0.o.gw
    have HVO := iH (fun c (hc : v.ownBlock = some c) => (HQ0.o.vq.vl.lo c hc).2)
    rcases hO2.row with ⟨rfl, hz⟩ | ⟨rb, cap, rfl, hrB, hrl, hck⟩
    · have HR0 : Hd (L.map SL.b = aB (.mk d ka kb) (L.map SL.b)) := (show _ = _ by rw [HA.o, HNN.o, hz]; rfl)
      clear hO2 hb2 hz y26 y27 HQ0 hsz2
      go_wp2_with fail
      go_loopw [31] (fun i wr => i = .int .i64 0 ∧ Hd (QS w0 w B g v v L d.cells wr)) (fun _ _ => 0)
      case atStart => exact ⟨rfl, HQ2⟩
      clear HQ2
      obtain ⟨rfl, HQr⟩ := hrel
      go_wp2
      go_end0
      exact ⟨v, L, rfl, HQr.o.vq, HR0.o, HQr.o.kq⟩
    have HCK := iH (fun i (hi : i < n) c u (hu : ((KI i).d.cells)[c]? = some u) => hck i (by rw [← HNN.o]; exact hi) c u (by rw [← hu, HKI.o i]; split <;> rfl))
    have HBV : Hd (rb < w2.heap.size ∧ rb ≠ g ∧ v.ownBlock ≠ some rb) := ⟨hrl, (by simp at hrB; omega), fun e => by have h1 := HVO.o rb e; simp at hrB; omega⟩
    rw [← HNN.o]
    clear hO2 hb2 y26 y27 HQ0 hck hrB hrl hsz2
    go_wp2_with fail
    go_loopw [31] (fun i wr => ∃ (k : Nat) (v' : Value) (L' : List SL), k ≤ n ∧ i = .int .i64 k ∧ Hd (L'.map SL.b = foldN k (fun i acc => aB (KI i) acc) (L.map SL.b)) ∧ Hd (QS w0 w B g v v' L' d.cells wr) ∧ Hd (KQ g v w2 v' wr)) (fun i _ => n - (intOf i).toNat)
    case atStart => exact ⟨0, v, L, nZ, rfl, rfl, HQ2, KQ.of_below brf⟩
    clear HQ2
    obtain ⟨k, v', L', hk, rfl, HRr, HQr, HKr⟩ := hrel
    by_cases hlk : k < n
    rotate_left
    · obtain rfl : k = n := by omega
      have hlkz : ¬ (k : Int) < (k : Int) := by omega
      have HRE : Hd (L'.map SL.b = aB (.mk d ka kb) (L.map SL.b)) := (show _ = _ by rw [HRr.o, HA.o])
      go_wp2
      go_end0
      exact ⟨v', L', rfl, HQr.o.vq, HRE.o, HQr.o.kq⟩
    have hlkz : (k : Int) < (n : Int) := by omega
    have hcx : wr.rangeAt rb (k * 28) (KI k).d.cl := fun c u hu => (World.cell?_of_block (w := w2) (a := ⟨rb, k * 28 + c, none⟩) (HKr.o.block rb HBV.o.1 HBV.o.2.1 HBV.o.2.2)).trans (HCK.o k hlk c u hu)
    have hth := (OB.new wr zUa 103).there 0 28 (by simp)
    have one1 : ((KI k).d.ar : Array Value).all (·.oneCell') = true := UN.one (KI k).d
    have HBk : Hd (Bl wr ((wr.alloc (.cells zUa 103)).setCells wr.heap.size 0 (KI k).d.cl)) := below_sets _ nR _ _ _ (bl_a _)
    have HXk : Hd (Box ((wr.alloc (.cells zUa 103)).setCells wr.heap.size 0 (KI k).d.cl) wr.heap.size (KI k).d.cells) := ((OB.new wr zUa 103).put [.int .i64 (KI k).d.k, .slice _ _ _, .int .i64 _, .slice _ _ _, .int .i64 _, .int .i64 _, .slice _ _ _, .int .i64 _, .slice _ _ _, .int .i64 _, .int .i64 _, .slice _ _ _, .int .i64 _, .slice _ _ _, .int .i64 _, .int .i64 _, .int .i64 _, .int .i64 _, .slice _ _ _, .int .i64 _, .slice _ _ _, .int .i64 _, .int .i64 _, .slice _ _ _, .slice (KI k).d.v.a _ _, .slice (KI k).d.ta _ (KI k).d.tc, .slice (KI k).d.aa (KI k).d.an (KI k).d.ac, .slice (KI k).d.ba (KI k).d.bn (KI k).d.bc] 0 _ (show 0 + 28 ≤ 28 by omega) rfl).box
    have HQ4 := iH (HQr.o.below HBk.o)
    have HK4 := iH (HKr.o.trans (KQ.of_below HBk.o))
    have HLl : Hd (L'.length + uc (KI k) ≤ 1000000) := (show _ ≤ 1000000 by have h1 := HLK.o k hlk; have h2 := congrArg List.length HRr.o; rw [List.length_map] at h2; omega)
    go_wp2_with (first | (with_reducible refine wpq_at ?_; refine wpList_load_mid rfl 103 _ rfl rb (k * 28) rfl (KI k).d.cl _ hcx Tryz.underlying103 rfl (by kernel_rfl) ?_; try simp only [Act.put, sA, zA, cA]) | (with_reducible refine wpq_at ?_; refine store_stop 103 (.tmp 5) (.tmp 34) rfl ?_))
    change wpList _ _ _ _ _ _
    refine wpList_store_mid rfl 103 _ _ rfl wr.heap.size 0 (KI k).d.ar rfl rfl hth (by kernel_rfl) one1 ?_
    try simp only [Act.put]
    generalize ((wr.alloc (.cells zUa 103)).setCells wr.heap.size 0 (KI k).d.cl) = W5 at *
    clear hcx hth one1 HBk HQr HKr
    have lr := HXk.o.range 0 (KI k).d.cl rfl
    go_wp2_with (with_reducible refine wpq_at ?_; refine wpList_load_mid rfl 103 _ rfl wr.heap.size 0 rfl (KI k).d.cl _ lr Tryz.underlying103 rfl (by kernel_rfl) ?_; try simp only [Act.put, sA, zA, cA])
    refine (HIH.o k hlk v' L' _ HQ4.o.vq HLl.o).mono ?_
    rintro e z5 ⟨v5, L5, rfl, hV5, hR5, hK5⟩
    have HQ5 := iH (HQ4.o.step hV5 hK5)
    have HK5 := iH (HK4.o.trans hK5)
    have HR5 : Hd (L5.map SL.b = foldN (k + 1) (fun i acc => aB (KI i) acc) (L.map SL.b)) := (show _ = aB (KI k) _ by rw [hR5, HRr.o])
    clear hV5 hR5 hK5 HQ4 HK4 HXk lr
    go_wp2
    go_roundw
    case rel => exact ⟨k + 1, v5, L5, by omega, by go_num, HR5, HQ5, HK5⟩
    case measure => simp [intOf]; omega
  have b2 : (d.k == 2) = false := by simp [k2]
  have HR0 : Hd (L.map SL.b = aB (.mk d ka kb) (L.map SL.b)) := (show _ = _ from ((if_neg k0).trans ((if_neg (by omega)).trans (if_neg (by omega)))).symm)
  go_wp2
  go_end0
  exact ⟨v, L, rfl, HQ0.o.vq, HR0.o, HQ0.o.kq⟩
end Go.Proofs.YthljoojcpbignaaGreatDoor
