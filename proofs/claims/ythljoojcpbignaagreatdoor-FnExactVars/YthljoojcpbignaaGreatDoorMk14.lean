import Derived.Test.YthljoojcpbignaaGreatDoorMk13
namespace Go.Proofs.YthljoojcpbignaaGreatDoor
open Go.RowKit Go.Deep
set_option maxHeartbeats 40000000
set_option maxRecDepth 100000
theorem VL.rebase {w0 w1 w : World} {B : Nat} {v : Value} {L : List SL} (h : VL w0 w B v L) (hb : Bl w0 w1) : VL w1 w B v L := ⟨h.own, h.lo, fun x hx => (h.txt x hx).upper (uB hb)⟩
def sV (x : QY) (i : Nat) : List Int := (x.sel i).v.b
def outs (x : QY) : Nat → List (List Int)
 | 0 => []
 | k + 1 => outs x k ++ [sV x k]
theorem outs_len (x : QY) (k : Nat) : (outs x k).length = k := by
 induction k with
 | zero => rfl
 | succ k ih => simp [outs, ih]
def inG (x : QY) (k : Nat) (b : List Int) : Prop := ∃ j, j < k ∧ (x.grp j).b = b
def SelP (body : List (List Int)) (s : SE) : Prop := (s.fn = 0 ∧ s.of.b = [] ∧ s.v.b ∈ body) ∨ ((s.fn = 1 ∨ s.fn = 2) ∧ s.of.b ∈ body ∧ nameOk s.v.b = true ∧ s.v.b ∉ body)
def isGr (x : QY) : Prop := 0 < x.gn ∨ ∃ i, i < x.sn ∧ (x.sel i).fn ≠ 0
structure SelsP (body : List (List Int)) (x : QY) : Prop where
 s : ∀ i, i < x.sn → sV x i ∉ outs x i ∧ SelP body (x.sel i)
 g : ∀ i, i < x.gn → (x.grp i).b ∈ body ∧ ¬ inG x i (x.grp i).b
 p : isGr x → x.sn ≠ 0 ∧ ∀ i, i < x.sn → (x.sel i).fn = 0 → inG x x.gn (sV x i)
 o : ∀ i, i < x.on → (x.key i).v.b ∈ (if x.sn = 0 then body else outs x x.sn)
theorem app_stop {ops : Array Oper} {rest : List Oper} {o : Oper} {a : Act} {Q : Exit → Act → World → Prop} {w : World} (s x : Operand)
 (_ho : o.op = .call { callee := .builtin .append, args := #[s, x], argTypes := #[24, 24] }) (h : Hd (wpList Tryz.prog ops Q (o :: rest) a w)) : wpList Tryz.prog ops Q (o :: rest) a w := h
theorem hidU {P : Prop} (h : P) : Hd P := h
theorem new_one (w : World) (y : SL) : ∀ j u, ([y.v] : List Value)[j]? = some u → (w.alloc (.cells #[.slice y.a y.len y.cap] 42)).cell? ((⟨w.heap.size, 0, none⟩ : Addr).add j) = some u := fun j u hu => World.news_of_block (Go.heap_alloc_new _ _) j u hu
def TellsT (t : Bool) (x : QY) (k : Nat) : Prop := t = true ↔ (0 < x.gn ∨ ∃ j, j < k ∧ (x.sel j).fn ≠ 0)
theorem TellsT.same {t : Bool} {x : QY} {k : Nat} (h : TellsT t x k) (h0 : (x.sel k).fn = 0) : TellsT t x (k + 1) := h.trans ⟨fun hh => hh.imp id fun ⟨j, hj, e⟩ => ⟨j, by omega, e⟩, fun hh => hh.imp id fun ⟨j, hj, e⟩ => ⟨j, by
 rcases (by omega : j < k ∨ j = k) with h1 | rfl
 · exact h1
 exact absurd h0 e, e⟩⟩
theorem TellsT.yes {x : QY} {k : Nat} (h0 : (x.sel k).fn ≠ 0) : TellsT true x (k + 1) := ⟨fun _ => .inr ⟨k, by omega, h0⟩, fun _ => rfl⟩
theorem KRow.upto {B : Nat} {w : World} {sz : Nat} {a : Option Addr} {n k : Nat} {C : Nat → List Value} (h : KRow B w sz a n C) (hk : k ≤ n) : KRow B w sz a k C := by
 rcases h with h | ⟨b, off, ha, hB, hlt, hc⟩
 · exact .inl (by omega)
 exact .inr ⟨b, off, ha, hB, hlt, fun i hi => hc i (by omega)⟩
theorem l4sels_any (x : QY) (vb : Value) (Lb : List SL) (body : List (List Int)) (B : Nat) (w : World) (hx : x.lies 0 w) (hV : VL w w B vb Lb) (hbd : Lb.map SL.b = body) (hN : ∀ v ∈ body, nameOk v = true) (hl : Lb.length ≤ 1048576) (hsn : x.sn ≤ 8) (hgn : x.gn ≤ 4) (hon : x.on ≤ 4) (hgc : x.gn ≤ x.gc) :
 Calls Tryz.prog 65 #[.agg x.ar, vb] w (Tells (SelsP body x) w) := by
 try unfold QY.ar
 obtain ⟨w1, hW⟩ : ∃ w1, w1 = w.alloc (.cells x.ar 34) := ⟨_, rfl⟩
 have hb1 : Bl w w1 := by rw [hW]; exact bl_a _
 have HWW := iH (fun W (h : Bl w1 W) => bl_trans hb1 h)
 have HBX := iH (fun W (h : Bl w1 W) => (show Box w1 w.heap.size x.cells by rw [hW]; exact Box.new w _ 34 _).below h)
 have hx1 := hx.below hb1
 have HNB := iH hN
 have HHB : Hd (∀ (y : SL) W, BsF 0 w1 y → Bl w1 W → Cl 84 #[vb, .slice y.a y.len y.cap] W (Tells (y.b ∈ body) W)) := fun y W hy h => by
  have h2 := l4has_any vb Lb y B w1 W (((hV.rebase hb1).below hb1).below h) h hy hl
  unfold InL at h2
  rw [hbd] at h2
  exact h2
 have HHG : Hd (∀ k, k ≤ x.gn → ∀ (y : SL) W, BsF 0 w1 y → Bl w1 W → Cl 84 #[.slice x.ga k x.gc, .slice y.a y.len y.cap] W (Tells (inG x k y.b) W)) := fun k hk y W hy h => l4hasR (hx1.g.1.upto hk) (fun i hi => hx1.g.2.1 i (by omega)) hy (by omega) h
 have HVR : Hd (∀ (y : SL) W, BsF 0 w1 y → Bl w1 W → Cl 96 #[.slice y.a y.len y.cap] W (Tells (nameOk y.b = true) W)) := fun y W hy h => l4var_any y W (hy.upper (uB h))
 have HSL : Hd (∀ i, i < x.sn → BsF 0 w1 (x.sel i).of ∧ BsF 0 w1 (x.sel i).v) := fun i hi => hx1.s.2.1 i hi
 have HGL : Hd (∀ i, i < x.gn → BsF 0 w1 (x.grp i)) := fun i hi => hx1.g.2.1 i hi
 have HKL : Hd (∀ i, i < x.on → BsF 0 w1 (x.key i).v) := fun i hi => hx1.o.2.1 i hi
 have HSR := iH hx1.s.1
 have HGR := iH hx1.g.1
 have HKR := iH hx1.o.1
 have y4 := (HBX.o w1 brf).2 4 _ rfl
 have y2 := (HBX.o w1 brf).2 2 _ rfl
 clear hx hx1 hV hbd hN hl hb1
 go_in
 go_upto_region 1 with fail
 rw [← hW]
 clear hW
 go_wp2_with fail
 clear y2 y4
 go_loopw [5, 6, 7] (fun lv tt i wr => ∃ (k : Nat) (t : Bool) (vo : Value) (Lo : List SL), k ≤ x.sn ∧ vo = lv ∧ tt = .bool t ∧ i = .int .i64 k ∧ Hd (VL w1 wr w1.heap.size vo Lo) ∧ Hd (Lo.map SL.b = outs x k) ∧ Hd (Bl w1 wr) ∧ Hd (TellsT t x k) ∧ Hd (∀ j, j < k → sV x j ∉ outs x j ∧ SelP body (x.sel j))) (fun _ _ i _ => x.sn - (intOf i).toNat)
 case atStart => exact ⟨0, _, .slice none 0 0, [], nZ, rfl, rfl, rfl, VL.nil _ _ _, (show _ = _ from rfl), Below.refl _ _, (show TellsT _ x 0 by unfold TellsT; simp), fun j hj => absurd hj nN⟩
 obtain ⟨k, t, vo, Lo, hk, rfl, rfl, rfl, HVr, HLr, HBr, HTr, HSr⟩ := hrel
 by_cases hlk : k < x.sn
 · have hlkz : (k : Int) < (x.sn : Int) := by omega
   obtain ⟨b, off, eS, _, hbs, hcs⟩ := HSR.o.resolve_left (by omega)
   have z := fun c u (hu : ((x.sel k).cells)[c]? = some u) => (HBr.o.cell (p := ⟨b, off + k * 3 + c, none⟩) hbs).trans (hcs k hlk c u hu)
   have z0 : wr.cell? ⟨b, off + k * 3, none⟩ = some (.int .i64 (x.sel k).fn) := z 0 _ rfl
   have z1 := z 1 _ rfl
   have z2 := z 2 _ rfl
   have y2 := (HBX.o wr HBr.o).2 2 _ rfl
   rw [eS] at y2
   have HB2 : Hd (Bl w1 (wr.alloc (.cells (x.sel k).ar 105))) := HBr.o.trans ((bl_a _).mono HBr.o.size)
   have HVO : Hd (VL w1 (wr.alloc (.cells (x.sel k).ar 105)) w1.heap.size vo Lo) := HVr.o.below (bl_a _)
   have HBXs : Hd (Box (wr.alloc (.cells (x.sel k).ar 105)) wr.heap.size (x.sel k).cells) := Box.new wr _ 105 _
   clear z hcs eS
   go_upto_region 7 with fail
   generalize (wr.alloc (.cells (x.sel k).ar 105)) = W2 at *
   generalize wr.heap.size = p8 at *
   clear z0 z1 z2 y2 HVr HBr hbs
   have HCE : Hd (∀ W, Bl W2 W → W.cell? ⟨p8, 0, none⟩ = some (.int .i64 (x.sel k).fn) ∧ W.cell? ⟨p8, 1, none⟩ = some (.slice (x.sel k).of.a (x.sel k).of.len (x.sel k).of.cap) ∧ W.cell? ⟨p8, 2, none⟩ = some (.slice (x.sel k).v.a (x.sel k).v.len (x.sel k).v.cap)) := fun W h => ⟨(HBXs.o.below h).2 0 _ rfl, (HBXs.o.below h).2 1 _ rfl, (HBXs.o.below h).2 2 _ rfl⟩
   have HBB := iH (fun W (h : Bl W2 W) => HB2.o.trans (h.mono HB2.o.size))
   have HLO : Hd (Lo.length ≤ 1048576) := (show _ ≤ _ by have h1 := congrArg List.length HLr.o; rw [List.length_map, outs_len] at h1; omega)
   have HR0 : Hd (Bl W2 W2) := Below.refl _ _
   have HLZ := iH (nil_len (HSL.o k hlk).1.1.1)
   have c0 := (HCE.o _ HR0.o).1
   have c1 := (HCE.o _ HR0.o).2.1
   have c2 := (HCE.o _ HR0.o).2.2
   by_cases f0 : (x.sel k).fn < 0
   · have HNO : Hd (¬ SelsP body x) := fun hh => by
      rcases (hh.s k hlk).2 with ⟨h1, _⟩ | ⟨h1, _⟩ <;> omega
     go_wp2
     go_ret
     exact Tells.no HNO.o (HWW.o _ (HBB.o _ HR0.o))
   by_cases f2 : (x.sel k).fn > 2
   · have HNO : Hd (¬ SelsP body x) := fun hh => by
      rcases (hh.s k hlk).2 with ⟨h1, _⟩ | ⟨h1, _⟩ <;> omega
     go_wp2
     go_ret
     exact Tells.no HNO.o (HWW.o _ (HBB.o _ HR0.o))
   have VR := HVR.o (x.sel k).v W2 (HSL.o k hlk).2 HB2.o
   go_wp2_with fail
   refine VR.mono ?_
   rintro e W3 ⟨q3, rfl, hq3, hbW3⟩
   have HBW3 := iH hbW3
   clear VR hbW3
   clear c0 c1 c2
   cases q3
   · have HNO : Hd (¬ SelsP body x) := fun hh => by
      rcases (hh.s k hlk).2 with ⟨_, _, h1⟩ | ⟨_, _, h1, _⟩
      · have h := hq3.2 (HNB.o _ h1)
        cases h
      have h := hq3.2 h1
      cases h
     clear hq3
     go_wp2
     go_ret
     exact Tells.no HNO.o (HWW.o _ (HBB.o _ HBW3.o))
   have HNM := iH (hq3.1 rfl)
   clear hq3
   have c0 := (HCE.o _ HBW3.o).1
   have c1 := (HCE.o _ HBW3.o).2.1
   have c2 := (HCE.o _ HBW3.o).2.2
   have HA := l4has_any vo Lo (x.sel k).v w1.heap.size w1 W3 (HVO.o.below HBW3.o) (HBB.o _ HBW3.o) (HSL.o k hlk).2 HLO.o
   go_wp2_with fail
   refine HA.mono ?_
   rintro e W4 ⟨q4, rfl, hq4, hbW4⟩
   have HBW4 := iH (HBW3.o.trans (hbW4.mono HBW3.o.size))
   clear HA hbW4
   clear c0 c1 c2
   cases q4 with
   | true =>
    have HNO : Hd (¬ SelsP body x) := fun hh => by
     have h1 := hq4.1 rfl
     unfold InL at h1
     rw [HLr.o] at h1
     exact (hh.s k hlk).1 h1
    clear hq4
    go_wp2
    go_ret
    exact Tells.no HNO.o (HWW.o _ (HBB.o _ HBW4.o))
   | false =>
    have HNI : Hd (sV x k ∉ outs x k) := fun hh => by
     have h := hq4.2 (show _ ∈ _ by rw [HLr.o]; exact hh)
     cases h
    clear hq4
    have c0 := (HCE.o _ HBW4.o).1
    have c1 := (HCE.o _ HBW4.o).2.1
    have c2 := (HCE.o _ HBW4.o).2.2
    by_cases fz : (x.sel k).fn = 0
    · have n0 : ((x.sel k).fn == 0) = true := by simp [fz]
      have n1 : ((x.sel k).fn != 0) = false := by simp [fz]
      have HFZ := iH fz
      clear fz
      by_cases oz : (x.sel k).of.len = 0
      rotate_left
      · have HNO : Hd (¬ SelsP body x) := fun hh => by
         rcases (hh.s k hlk).2 with ⟨_, h1, _⟩ | ⟨h1, _⟩
         · exact oz (HLZ.o.1 h1)
         have h2 := HFZ.o; omega
        have ob : (((x.sel k).of.len : Int) == 0) = false := by simp; omega
        clear oz
        go_wp2
        go_ret
        exact Tells.no HNO.o (HWW.o _ (HBB.o _ HBW4.o))
      have ob : (((x.sel k).of.len : Int) == 0) = true := by simp; omega
      have HOZ := iH (HLZ.o.2 oz)
      clear oz
      have HH := HHB.o (x.sel k).v W4 (HSL.o k hlk).2 (HBB.o _ HBW4.o)
      go_wp2_with fail
      refine HH.mono ?_
      rintro e W5 ⟨q5, rfl, hq5, hbW5⟩
      have HBW5 := iH (HBW4.o.trans (hbW5.mono HBW4.o.size))
      clear HH hbW5
      clear c0 c1 c2
      cases q5
      · have HNO : Hd (¬ SelsP body x) := fun hh => by
         rcases (hh.s k hlk).2 with ⟨_, _, h1⟩ | ⟨h1, _⟩
         · have h := hq5.2 h1
           cases h
         have h2 := HFZ.o; omega
        clear hq5
        go_wp2
        go_ret
        exact Tells.no HNO.o (HWW.o _ (HBB.o _ HBW5.o))
      have HSP : Hd (sV x k ∉ outs x k ∧ SelP body (x.sel k)) := ⟨HNI.o, .inl ⟨HFZ.o, HOZ.o, hq5.1 rfl⟩⟩
      clear hq5
      have HV9 := iH (HVO.o.below HBW5.o)
      have HBL9 := iH (HBB.o _ HBW5.o)
      obtain ⟨oa, oc, hvo, _⟩ := HV9.o.form
      subst hvo
      have HO1 := iH (fun o => HV9.o.below (bl_a o))
      have HLW := iH (fun o w9 v9 (hK : Kp _ (W5.alloc o) v9 w9) => (HBL9.o.trans ((bl_a o).mono HBL9.o.size)).trans (hK.low (fun g hg => (HV9.o.lo g hg).1) (Nat.le_trans HBL9.o.size (bl_a (w := W5) o).size)))
      have HNW := hidU (new_one W5 (x.sel k).v)
      have HLE := iH HLO.o
      have HB1 := iH (fun o => Nat.le_trans HBL9.o.size (bl_a (w := W5) o).size)
      have HXV := iH ((HSL.o k hlk).2)
      have HE9 : Hd ((Lo ++ [(x.sel k).v]).map SL.b = outs x (k + 1)) := (show _ = outs x k ++ [sV x k] by rw [List.map_append, HLr.o]; rfl)
      have HS9 : Hd (∀ j, j < k + 1 → sV x j ∉ outs x j ∧ SelP body (x.sel j)) := fun j hj => by
       by_cases e : j = k
       · rw [e]; exact HSP.o
       exact HSr.o j (by omega)
      have HT9 := hidU (HTr.o.same HFZ.o)
      have e5 := (HCE.o _ HBW5.o).2.2
      have e6 := (HCE.o _ HBW5.o).1
      clear HSP HSr HLr HTr HVO HV9 HLO
      obtain ⟨no, hno⟩ : ∃ no, no = Lo.length := ⟨_, rfl⟩
      have HNO1 := iH hno
      rw [← hno] at HO1 HLE HLW ⊢
      clear hno
      cases t
      all_goals
       go_wp2_with (with_reducible refine wpq_at ?_; refine app_stop (.tmp 92) (.tmp 95) rfl ?_)
       change wpList _ _ _ _ _ _
       refine appL rfl (.tmp 92) (.tmp 95) rfl w1 w1.heap.size (.slice oa no oc) Lo rfl (HO1.o _) (x.sel k).v HXV.o _ 1 rfl HNW (by rw [← HNO1.o]; exact HLE.o) (HB1.o _) ?_
       intro g9 c9 w9 HO9 HK9
       go_wp2
       go_roundw
       case rel => exact ⟨k + 1, _, _, _, by omega, rfl, rfl, by go_num, HO9, HE9, HLW.o _ _ _ HK9.o, HT9, HS9⟩
       case measure => simp [intOf]; omega
    have n0 : ((x.sel k).fn == 0) = false := by simp [fz]
    have n1 : ((x.sel k).fn != 0) = true := by simp [fz]
    have HFZ := iH fz
    have HF2 : Hd ((x.sel k).fn = 1 ∨ (x.sel k).fn = 2) := (show _ ∨ _ by omega)
    clear fz
    by_cases oz : (x.sel k).of.len = 0
    · have HNO : Hd (¬ SelsP body x) := fun hh => by
       rcases (hh.s k hlk).2 with ⟨h1, _⟩ | ⟨_, h1, _⟩
       · exact HFZ.o h1
       exact name_pos (HNB.o _ h1) (HLZ.o.2 oz)
      have ob : (((x.sel k).of.len : Int) == 0) = true := by simp; omega
      clear oz
      go_wp2
      go_ret
      exact Tells.no HNO.o (HWW.o _ (HBB.o _ HBW4.o))
    have ob : (((x.sel k).of.len : Int) == 0) = false := by simp; omega
    clear oz
    have HH := HHB.o (x.sel k).of W4 (HSL.o k hlk).1 (HBB.o _ HBW4.o)
    go_wp2_with fail
    refine HH.mono ?_
    rintro e W5 ⟨q5, rfl, hq5, hbW5⟩
    have HBW5 := iH (HBW4.o.trans (hbW5.mono HBW4.o.size))
    clear HH hbW5
    clear c0 c1 c2
    cases q5
    · have HNO : Hd (¬ SelsP body x) := fun hh => by
       rcases (hh.s k hlk).2 with ⟨h1, _⟩ | ⟨_, h1, _⟩
       · exact HFZ.o h1
       have h := hq5.2 h1
       cases h
      clear hq5
      go_wp2
      go_ret
      exact Tells.no HNO.o (HWW.o _ (HBB.o _ HBW5.o))
    have HOB := iH (hq5.1 rfl)
    clear hq5
    have c0 := (HCE.o _ HBW5.o).1
    have c1 := (HCE.o _ HBW5.o).2.1
    have c2 := (HCE.o _ HBW5.o).2.2
    have HH := HHB.o (x.sel k).v W5 (HSL.o k hlk).2 (HBB.o _ HBW5.o)
    go_wp2_with fail
    refine HH.mono ?_
    rintro e W6 ⟨q6, rfl, hq6, hbW6⟩
    have HBW6 := iH (HBW5.o.trans (hbW6.mono HBW5.o.size))
    clear HH hbW6
    clear c0 c1 c2
    cases q6 with
    | true =>
     have HNO : Hd (¬ SelsP body x) := fun hh => by
      rcases (hh.s k hlk).2 with ⟨h1, _⟩ | ⟨_, _, _, h1⟩
      · exact HFZ.o h1
      exact h1 (hq6.1 rfl)
     clear hq6
     go_wp2
     go_ret
     exact Tells.no HNO.o (HWW.o _ (HBB.o _ HBW6.o))
    | false =>
     have HSP : Hd (sV x k ∉ outs x k ∧ SelP body (x.sel k)) := ⟨HNI.o, .inr ⟨HF2.o, HOB.o, HNM.o, fun hh => by have h := hq6.2 hh; cases h⟩⟩
     clear hq6
     have HV9 := iH (HVO.o.below HBW6.o)
     have HBL9 := iH (HBB.o _ HBW6.o)
     obtain ⟨oa, oc, hvo, _⟩ := HV9.o.form
     subst hvo
     have HO1 := iH (fun o => HV9.o.below (bl_a o))
     have HLW := iH (fun o w9 v9 (hK : Kp _ (W6.alloc o) v9 w9) => (HBL9.o.trans ((bl_a o).mono HBL9.o.size)).trans (hK.low (fun g hg => (HV9.o.lo g hg).1) (Nat.le_trans HBL9.o.size (bl_a (w := W6) o).size)))
     have HNW := hidU (new_one W6 (x.sel k).v)
     have HLE := iH HLO.o
     have HB1 := iH (fun o => Nat.le_trans HBL9.o.size (bl_a (w := W6) o).size)
     have HXV := iH ((HSL.o k hlk).2)
     have HE9 : Hd ((Lo ++ [(x.sel k).v]).map SL.b = outs x (k + 1)) := (show _ = outs x k ++ [sV x k] by rw [List.map_append, HLr.o]; rfl)
     have HS9 : Hd (∀ j, j < k + 1 → sV x j ∉ outs x j ∧ SelP body (x.sel j)) := fun j hj => by
      by_cases e : j = k
      · rw [e]; exact HSP.o
      exact HSr.o j (by omega)
     have HT9 := hidU (TellsT.yes HFZ.o)
     have e5 := (HCE.o _ HBW6.o).2.2
     have e6 := (HCE.o _ HBW6.o).1
     clear HSP HSr HLr HTr HVO HV9 HLO
     obtain ⟨no, hno⟩ : ∃ no, no = Lo.length := ⟨_, rfl⟩
     have HNO1 := iH hno
     rw [← hno] at HO1 HLE HLW ⊢
     clear hno
     cases t
     all_goals
      go_wp2_with (with_reducible refine wpq_at ?_; refine app_stop (.tmp 92) (.tmp 95) rfl ?_)
      change wpList _ _ _ _ _ _
      refine appL rfl (.tmp 92) (.tmp 95) rfl w1 w1.heap.size (.slice oa no oc) Lo rfl (HO1.o _) (x.sel k).v HXV.o _ 1 rfl HNW (by rw [← HNO1.o]; exact HLE.o) (HB1.o _) ?_
      intro g9 c9 w9 HO9 HK9
      go_wp2
      go_roundw
      case rel => exact ⟨k + 1, _, _, _, by omega, rfl, rfl, by go_num, HO9, HE9, HLW.o _ _ _ HK9.o, HT9, HS9⟩
      case measure => simp [intOf]; omega
 obtain rfl : k = x.sn := by omega
 have hlkz : ¬ (x.sn : Int) < (x.sn : Int) := by omega
 obtain ⟨wq, rfl⟩ : ∃ wq, wq = wr := ⟨_, rfl⟩
 have HQB := iH (fun W (h : Bl wq W) => HBr.o.trans (h.mono HBr.o.size))
 have HBx : Hd (Bl wq wq) := Below.refl _ _
 have HSq : Hd (∀ i, i < x.sn → sV x i ∉ outs x i ∧ SelP body (x.sel i)) := HSr
 have HTq : Hd (TellsT t x x.sn) := HTr
 have HHO : Hd (∀ (y : SL) W, BsF 0 w1 y → Bl wq W → Cl 84 #[vo, .slice y.a y.len y.cap] W (Tells (y.b ∈ outs x x.sn) W)) := fun y W hy h => by
  have h2 := l4has_any vo Lo y w1.heap.size w1 W (HVr.o.below h) (HQB.o _ h) hy (by have h1 := congrArg List.length HLr.o; rw [List.length_map, outs_len] at h1; omega)
  unfold InL at h2
  rw [HLr.o] at h2
  exact h2
 have y2 := (HBX.o wq HBr.o).2 2 _ rfl
 have y4 := (HBX.o wq HBr.o).2 4 _ rfl
 clear HVr HLr HBr HSr HTr hk
 go_wp2_with fail
 go_loopw [9] (fun i wr => ∃ (k : Nat), k ≤ x.gn ∧ i = .int .i64 k ∧ Hd (Bl wq wr) ∧ Hd (∀ j, j < k → (x.grp j).b ∈ body ∧ ¬ inG x j (x.grp j).b)) (fun i _ => x.gn - (intOf i).toNat)
 case atStart => exact ⟨0, nZ, rfl, HBx, fun j hj => absurd hj nN⟩
 clear HBx
 obtain ⟨k, hk, rfl, HB3, HP3⟩ := hrel
 have y4 := (HBX.o wr (HQB.o _ HB3.o)).2 4 _ rfl
 by_cases hlk : k < x.gn
 · have hlkz : (k : Int) < (x.gn : Int) := by omega
   have hkc : (k : Int) ≤ (x.gc : Int) := by omega
   obtain ⟨b, off, eS, _, hbs, hcs⟩ := HGR.o.resolve_left (by omega)
   rw [eS] at y4
   have HF2 : Hd (∀ w', Bl wq w' → w'.cell? ⟨w.heap.size, 4, none⟩ = some (.slice (some ⟨b, off, none⟩) x.gn x.gc) ∧ w'.cell? ⟨b, off + k, none⟩ = some (.slice (x.grp k).a (x.grp k).len (x.grp k).cap)) := fun w' h => ⟨(by have h1 := (HBX.o w' (HQB.o _ h)).2 4 _ rfl; rw [eS] at h1; exact h1), (by have h1 := hcs k hlk 0 _ rfl; rw [Nat.mul_one] at h1; exact ((HQB.o _ h).cell (p := ⟨b, off + k, none⟩) hbs).trans h1)⟩
   have Z := HHB.o (x.grp k) wr.drew (HGL.o k hlk) (HQB.o _ (Below.drew HB3.o))
   have HZ2 : Hd (∀ W, Bl wq W → Cl 84 #[.slice (some ⟨b, off, none⟩) k x.gc, .slice (x.grp k).a (x.grp k).len (x.grp k).cap] W (Tells (inG x k (x.grp k).b) W)) := fun W h => (by have h1 := HHG.o k (by omega) (x.grp k) W (HGL.o k hlk) (HQB.o _ h); rw [eS] at h1; exact h1)
   clear hcs eS
   go_wp2_with fail
   refine whd (fun w' => Bl wq w') ?_ fun hHeld => ?_
   · exact Below.drew HB3.o
   refine tkB 0 104 ?_
   refine tkB 1 105 ?_
   refine tkA 2 106 (v := ?v3) ?y3 ?_
   case y3 => (intro w' hSw; obtain ⟨p1, p2⟩ := HF2.o w' hSw; go_simp; (try with_reducible rfl))
   refine tkB 3 107 ?_
   refine tkB 4 108 ?_
   refine tkA 5 109 (v := ?v6) ?y6 ?_
   case y6 => (intro w' hSw; obtain ⟨p1, p2⟩ := HF2.o w' hSw; go_simp; (try with_reducible rfl))
   try simp only [Act.put, sA, zA, cA]
   refine rdA 6 fun K hK => ?_
   go_simp
   refine Z.mono ?_
   rintro e w2 ⟨q2, rfl, hq2, hb2⟩
   have HB2 := iH (bl_trans (Below.drew HB3.o) hb2)
   clear hb2 Z
   cases q2
   · have HNO : Hd (¬ SelsP body x) := fun hh => by
      have h := hq2.2 (hh.g k hlk).1
      cases h
     clear hq2
     go_wp2_with fail
     refine hK.out _ _ ?_ fun hHeld => ?_
     · exact HB2.o
     clear hK K
     refine tkB 7 111 ?_
     refine tkB 8 112 ?_
     refine tkU 9 113 ?_
     refine tkU 10 114 ?_
     refine tkU 11 115 ?_
     refine tkU 12 116 ?_
     refine tkU 13 117 ?_
     refine tkU 14 118 ?_
     refine tkU 15 119 ?_
     refine tkU 16 120 ?_
     refine tkU 17 121 ?_
     refine tkU 18 122 ?_
     refine tkB 19 123 ?_
     refine wpAnyH_done (by kernel_rfl) ?_ _
     clear hHeld HF2
     go_wp2
     go_ret
     exact Tells.no HNO.o (HWW.o _ (HQB.o _ HB2.o))
   have HI2 := iH (hq2.1 rfl)
   clear hq2
   go_wp2_with fail
   refine hK.out _ _ ?_ fun hHeld => ?_
   · exact HB2.o
   clear hK K
   refine tkB 7 111 ?_
   refine tkB 8 112 ?_
   refine tkB 9 113 ?_
   refine tkA 10 114 (v := ?v13) ?y13 ?_
   case y13 => (intro w' hSw; obtain ⟨p1, p2⟩ := HF2.o w' hSw; go_simp; (try with_reducible rfl))
   refine tkB 11 115 ?_
   refine tkB 12 116 ?_
   refine tkB 13 117 ?_
   refine tkA 14 118 (v := ?v17) ?y17 ?_
   case y17 => (intro w' hSw; obtain ⟨p1, p2⟩ := HF2.o w' hSw; go_simp; (try with_reducible rfl))
   refine tkB 15 119 ?_
   refine tkB 16 120 ?_
   refine tkA 17 121 (v := ?v20) ?y20 ?_
   case y20 => (intro w' hSw; obtain ⟨p1, p2⟩ := HF2.o w' hSw; go_simp; (try with_reducible rfl))
   try simp only [Act.put, sA, zA, cA]
   refine rdA 18 fun K hK => ?_
   go_simp
   refine (HZ2.o _ HB2.o).mono ?_
   rintro e w3 ⟨q3, rfl, hq3, hb3⟩
   have HB4 := iH (bl_trans HB2.o hb3)
   clear hb3
   cases q3 with
   | true =>
    have HNO : Hd (¬ SelsP body x) := fun hh => by
     exact (hh.g k hlk).2 (hq3.1 rfl)
    clear hq3
    go_wp2_with fail
    refine hK.out _ _ ?_ fun hHeld => ?_
    · exact HB4.o
    clear hK K
    refine tkB 19 123 ?_
    refine wpAnyH_done (by kernel_rfl) ?_ _
    clear hHeld HF2
    go_wp2
    go_ret
    exact Tells.no HNO.o (HWW.o _ (HQB.o _ HB4.o))
   | false =>
    have HN2 : Hd ((x.grp k).b ∈ body ∧ ¬ inG x k (x.grp k).b) := ⟨HI2.o, fun hh => by have h := hq3.2 hh; cases h⟩
    clear hq3
    go_wp2_with fail
    refine hK.out _ _ ?_ fun hHeld => ?_
    · exact HB4.o
    clear hK K
    refine tkB 19 123 ?_
    refine wpAnyH_done (by kernel_rfl) ?_ _
    clear hHeld HF2 HB3 HB2
    go_wp2
    go_roundw
    case rel =>
     refine ⟨k + 1, by omega, by go_num, HB4, fun j hj => ?_⟩
     by_cases e : j = k
     · subst e
       exact HN2.o
     exact HP3.o j (by omega)
    case measure => simp [intOf]; omega
 obtain rfl : k = x.gn := by omega
 have hlkz : ¬ (x.gn : Int) < (x.gn : Int) := by omega
 obtain ⟨wy, rfl⟩ : ∃ wy, wy = wr := ⟨_, rfl⟩
 have HGq : Hd (∀ i, i < x.gn → (x.grp i).b ∈ body ∧ ¬ inG x i (x.grp i).b) := HP3
 have HBx := HB3
 have y2 := (HBX.o wy (HQB.o _ HB3.o)).2 2 _ rfl
 clear HP3 hk
 cases t with
 | true =>
  go_wp2_with fail
  go_loopw [10] (fun i wr => ∃ (k : Nat), k ≤ x.sn ∧ i = .int .i64 k ∧ Hd (Bl wq wr) ∧ Hd (∀ j, j < k → (x.sel j).fn = 0 → inG x x.gn (sV x j))) (fun i _ => x.sn - (intOf i).toNat)
  case atStart => exact ⟨0, nZ, rfl, HBx, fun j hj => absurd hj nN⟩
  clear HBx
  obtain ⟨k, hk, rfl, HB3, HP3⟩ := hrel
  have y2 := (HBX.o wr (HQB.o _ HB3.o)).2 2 _ rfl
  by_cases hlk : k < x.sn
  · have hlkz : (k : Int) < (x.sn : Int) := by omega
    obtain ⟨b, off, eS, _, hbs, hcs⟩ := HSR.o.resolve_left (by omega)
    rw [eS] at y2
    have HF3 : Hd (∀ w', Bl wq w' → w'.cell? ⟨w.heap.size, 2, none⟩ = some (.slice (some ⟨b, off, none⟩) x.sn x.sc) ∧ w'.cell? ⟨w.heap.size, 4, none⟩ = some (.slice x.ga x.gn x.gc) ∧ w'.cell? ⟨b, off + k * 3, none⟩ = some (.int .i64 (x.sel k).fn) ∧ w'.cell? ⟨b, off + k * 3 + 2, none⟩ = some (.slice (x.sel k).v.a (x.sel k).v.len (x.sel k).v.cap)) := fun w' h => ⟨(by have h1 := (HBX.o w' (HQB.o _ h)).2 2 _ rfl; rw [eS] at h1; exact h1), (HBX.o w' (HQB.o _ h)).2 4 _ rfl, ((HQB.o _ h).cell (p := ⟨b, off + k * 3, none⟩) hbs).trans (hcs k hlk 0 _ rfl), ((HQB.o _ h).cell (p := ⟨b, off + k * 3 + 2, none⟩) hbs).trans (hcs k hlk 2 _ rfl)⟩
    clear hcs eS
    by_cases fz : (x.sel k).fn = 0
    · have n0 : ((x.sel k).fn == 0) = true := by simp [fz]
      have HFZ : Hd ((x.sel k).fn = 0) := fz
      clear fz
      have Z := HHG.o x.gn nR (x.sel k).v wr.drew (HSL.o k hlk).2 (HQB.o _ (Below.drew HB3.o))
      go_wp2_with fail
      refine whd (fun w' => Bl wq w') ?_ fun hHeld => ?_
      · exact Below.drew HB3.o
      refine tkB 0 134 ?_
      refine tkA 1 135 (v := ?v24) ?y24 ?_
      case y24 => (intro w' hSw; obtain ⟨p1, p2, p3, p4⟩ := HF3.o w' hSw; go_simp; (try with_reducible rfl))
      refine tkB 2 136 ?_
      refine tkB 3 137 ?_
      refine tkB 4 138 ?_
      refine tkA 5 139 (v := ?v28) ?y28 ?_
      case y28 => (intro w' hSw; obtain ⟨p1, p2, p3, p4⟩ := HF3.o w' hSw; go_simp; (try with_reducible rfl))
      refine tkB 6 140 ?_
      refine tkB 7 141 ?_
      refine tkB 8 142 ?_
      refine tkA 9 143 (v := ?v32) ?y32 ?_
      case y32 => (intro w' hSw; obtain ⟨p1, p2, p3, p4⟩ := HF3.o w' hSw; go_simp; (try with_reducible rfl))
      refine tkB 10 144 ?_
      refine tkA 11 145 (v := ?v34) ?y34 ?_
      case y34 => (intro w' hSw; obtain ⟨p1, p2, p3, p4⟩ := HF3.o w' hSw; go_simp; (try with_reducible rfl))
      refine tkB 12 146 ?_
      refine tkB 13 147 ?_
      refine tkB 14 148 ?_
      refine tkA 15 149 (v := ?v38) ?y38 ?_
      case y38 => (intro w' hSw; obtain ⟨p1, p2, p3, p4⟩ := HF3.o w' hSw; go_simp; (try with_reducible rfl))
      try simp only [Act.put, sA, zA, cA]
      refine rdA 16 fun K hK => ?_
      go_simp
      refine Z.mono ?_
      rintro e w2 ⟨q2, rfl, hq2, hb2⟩
      have HB2 : Hd (Bl wq w2) := bl_trans (Below.drew HB3.o) hb2
      clear hb2 Z
      cases q2
      · have HNO : Hd (¬ SelsP body x) := fun hh => by
         have h := hq2.2 ((hh.p (HTq.o.1 rfl)).2 k hlk HFZ.o)
         cases h
        clear hq2
        go_wp2_with fail
        refine hK.out _ _ ?_ fun hHeld => ?_
        · exact HB2.o
        clear hK K
        refine tkB 17 151 ?_
        refine tkB 18 152 ?_
        refine wpAnyH_done (by kernel_rfl) ?_ _
        clear hHeld HF3
        go_wp2
        go_ret
        exact Tells.no HNO.o (HWW.o _ (HQB.o _ HB2.o))
      have HN2 : Hd ((x.sel k).fn = 0 → inG x x.gn (sV x k)) := fun _ => hq2.1 rfl
      clear hq2
      go_wp2_with fail
      refine hK.out _ _ ?_ fun hHeld => ?_
      · exact HB2.o
      clear hK K
      refine tkB 17 151 ?_
      refine tkB 18 152 ?_
      refine wpAnyH_done (by kernel_rfl) ?_ _
      clear hHeld HF3 HB3
      go_wp2
      go_roundw
      case rel =>
       refine ⟨k + 1, by omega, by go_num, HB2, fun j hj => ?_⟩
       by_cases e : j = k
       · subst e
         exact HN2.o
       exact HP3.o j (by omega)
      case measure => simp [intOf]; omega
    have n0 : ((x.sel k).fn == 0) = false := by simp [fz]
    have HN2 : Hd ((x.sel k).fn = 0 → inG x x.gn (sV x k)) := fun h => absurd h fz
    clear fz
    go_wp2_with fail
    refine whd (fun w' => Bl wq w') ?_ fun hHeld => ?_
    · exact Below.drew HB3.o
    refine tkB 0 134 ?_
    refine tkA 1 135 (v := ?v44) ?y44 ?_
    case y44 => (intro w' hSw; obtain ⟨p1, p2, p3, p4⟩ := HF3.o w' hSw; go_simp; (try with_reducible rfl))
    refine tkB 2 136 ?_
    refine tkB 3 137 ?_
    refine tkB 4 138 ?_
    refine tkA 5 139 (v := ?v48) ?y48 ?_
    case y48 => (intro w' hSw; obtain ⟨p1, p2, p3, p4⟩ := HF3.o w' hSw; go_simp; (try with_reducible rfl))
    refine tkB 6 140 ?_
    refine tkB 7 141 ?_
    refine tkU 8 142 ?_
    refine tkU 9 143 ?_
    refine tkU 10 144 ?_
    refine tkU 11 145 ?_
    refine tkU 12 146 ?_
    refine tkU 13 147 ?_
    refine tkU 14 148 ?_
    refine tkU 15 149 ?_
    refine tkU 16 150 ?_
    refine tkU 17 151 ?_
    refine tkB 18 152 ?_
    refine wpAnyH_done (by kernel_rfl) ?_ _
    have HB2 : Hd (Bl wq wr.drew) := Below.drew HB3.o
    clear hHeld HF3 HB3
    go_wp2
    go_roundw
    case rel =>
     refine ⟨k + 1, by omega, by go_num, HB2, fun j hj => ?_⟩
     by_cases e : j = k
     · subst e
       exact HN2.o
     exact HP3.o j (by omega)
    case measure => simp [intOf]; omega
  obtain rfl : k = x.sn := by omega
  have hlkz : ¬ (x.sn : Int) < (x.sn : Int) := by omega
  obtain ⟨wz, rfl⟩ : ∃ wz, wz = wr := ⟨_, rfl⟩
  by_cases hs0 : x.sn = 0
  · have HNO : Hd (¬ SelsP body x) := fun hh => by
     exact (hh.p (HTq.o.1 rfl)).1 hs0
    have hse : ((x.sn : Int) == 0) = true := by simp; omega
    clear hs0 hk
    go_wp2
    go_ret
    exact Tells.no HNO.o (HWW.o _ (HQB.o _ HB3.o))
  have HZ0 : Hd (¬ x.sn = 0) := hs0
  have hse : ((x.sn : Int) == 0) = false := by simp; omega
  have HPq : Hd (isGr x → x.sn ≠ 0 ∧ ∀ i, i < x.sn → (x.sel i).fn = 0 → inG x x.gn (sV x i)) := fun _ => ⟨HZ0.o, HP3.o⟩
  have HBx := HB3
  clear hs0 HP3 hk
  go_wp2_with fail
  go_loopw [11] (fun i wr => ∃ (k : Nat), k ≤ x.on ∧ i = .int .i64 k ∧ Hd (Bl wq wr) ∧ Hd (∀ j, j < k → (x.key j).v.b ∈ (if x.sn = 0 then body else outs x x.sn))) (fun i _ => x.on - (intOf i).toNat)
  case atStart => exact ⟨0, nZ, rfl, HBx, fun j hj => absurd hj nN⟩
  clear HBx
  obtain ⟨k, hk, rfl, HB4, HK4⟩ := hrel
  have y5 := (HBX.o wr (HQB.o _ HB4.o)).2 5 _ rfl
  by_cases hlk : k < x.on
  · have hlkz : (k : Int) < (x.on : Int) := by omega
    obtain ⟨b, off, eS, _, hbs, hcs⟩ := HKR.o.resolve_left (by omega)
    have z0 : wr.cell? ⟨b, off + k * 2, none⟩ = some (.slice (x.key k).v.a (x.key k).v.len (x.key k).v.cap) := ((HQB.o _ HB4.o).cell (p := ⟨b, off + k * 2, none⟩) hbs).trans (hcs k hlk 0 _ rfl)
    rw [eS] at y5
    clear hcs eS
    have Z := HHO.o (x.key k).v wr (HKL.o k hlk) HB4.o
    go_wp2_with fail
    refine Z.mono ?_
    rintro e W7 ⟨q7, rfl, hq7, hb7⟩
    have HB7 : Hd (Bl wq W7) := bl_trans HB4.o hb7
    clear Z hb7 z0 y5
    cases q7
    · have HNO : Hd (¬ SelsP body x) := fun hh => by
       have h := hq7.2 (show _ by have h1 := hh.o k hlk; rw [if_neg HZ0.o] at h1; exact h1)
       cases h
      clear hq7
      go_wp2
      go_ret
      exact Tells.no HNO.o (HWW.o _ (HQB.o _ HB7.o))
    have HN7 : Hd ((x.key k).v.b ∈ (if x.sn = 0 then body else outs x x.sn)) := (show _ by have h1 := hq7.1 rfl; rw [if_neg HZ0.o]; exact h1)
    clear hq7
    go_wp2
    go_roundw
    case rel =>
     refine ⟨k + 1, by omega, by go_num, HB7, fun j hj => ?_⟩
     by_cases e : j = k
     · subst e
       exact HN7.o
     exact HK4.o j (by omega)
    case measure => simp [intOf]; omega
  obtain rfl : k = x.on := by omega
  have hlkz : ¬ (x.on : Int) < (x.on : Int) := by omega
  go_wp2
  go_ret
  exact Tells.yes ⟨HSq.o, HGq.o, HPq.o, HK4.o⟩ (HWW.o _ (HQB.o _ HB4.o))
 | false =>
  have HPq : Hd (isGr x → x.sn ≠ 0 ∧ ∀ i, i < x.sn → (x.sel i).fn = 0 → inG x x.gn (sV x i)) := fun h => (by have h1 := HTq.o.2 h; cases h1)
  by_cases hs0 : x.sn = 0
  · have HZ0 : Hd (x.sn = 0) := hs0
    have hse : ((x.sn : Int) == 0) = true := by simp; omega
    have hsz : ¬ (0 : Int) < (x.sn : Int) := by omega
    clear hs0
    go_wp2_with fail
    refine wp_loop_rounds 1 ?_
    rw [rounds_succ]
    go_wp2_with fail
    go_loopw [11] (fun i wr => ∃ (k : Nat), k ≤ x.on ∧ i = .int .i64 k ∧ Hd (Bl wq wr) ∧ Hd (∀ j, j < k → (x.key j).v.b ∈ (if x.sn = 0 then body else outs x x.sn))) (fun i _ => x.on - (intOf i).toNat)
    case atStart => exact ⟨0, nZ, rfl, HBx, fun j hj => absurd hj nN⟩
    clear HBx
    obtain ⟨k, hk, rfl, HB4, HK4⟩ := hrel
    have y5 := (HBX.o wr (HQB.o _ HB4.o)).2 5 _ rfl
    by_cases hlk : k < x.on
    · have hlkz : (k : Int) < (x.on : Int) := by omega
      obtain ⟨b, off, eS, _, hbs, hcs⟩ := HKR.o.resolve_left (by omega)
      have z0 : wr.cell? ⟨b, off + k * 2, none⟩ = some (.slice (x.key k).v.a (x.key k).v.len (x.key k).v.cap) := ((HQB.o _ HB4.o).cell (p := ⟨b, off + k * 2, none⟩) hbs).trans (hcs k hlk 0 _ rfl)
      rw [eS] at y5
      clear hcs eS
      have Z := HHB.o (x.key k).v wr (HKL.o k hlk) (HQB.o _ HB4.o)
      go_wp2_with fail
      refine Z.mono ?_
      rintro e W7 ⟨q7, rfl, hq7, hb7⟩
      have HB7 : Hd (Bl wq W7) := bl_trans HB4.o hb7
      clear Z hb7 z0 y5
      cases q7
      · have HNO : Hd (¬ SelsP body x) := fun hh => by
         have h := hq7.2 (show _ by have h1 := hh.o k hlk; rw [if_pos HZ0.o] at h1; exact h1)
         cases h
        clear hq7
        go_wp2
        go_ret
        exact Tells.no HNO.o (HWW.o _ (HQB.o _ HB7.o))
      have HN7 : Hd ((x.key k).v.b ∈ (if x.sn = 0 then body else outs x x.sn)) := (show _ by have h1 := hq7.1 rfl; rw [if_pos HZ0.o]; exact h1)
      clear hq7
      go_wp2
      go_roundw
      case rel =>
       refine ⟨k + 1, by omega, by go_num, HB7, fun j hj => ?_⟩
       by_cases e : j = k
       · subst e
         exact HN7.o
       exact HK4.o j (by omega)
      case measure => simp [intOf]; omega
    obtain rfl : k = x.on := by omega
    have hlkz : ¬ (x.on : Int) < (x.on : Int) := by omega
    go_wp2
    go_ret
    exact Tells.yes ⟨HSq.o, HGq.o, HPq.o, HK4.o⟩ (HWW.o _ (HQB.o _ HB4.o))
  have HZ0 : Hd (¬ x.sn = 0) := hs0
  have hse : ((x.sn : Int) == 0) = false := by simp; omega
  have hsz : (0 : Int) < (x.sn : Int) := by omega
  clear hs0
  go_wp2_with fail
  refine wp_loop_rounds 1 ?_
  rw [rounds_succ]
  go_wp2_with fail
  go_loopw [11] (fun i wr => ∃ (k : Nat), k ≤ x.on ∧ i = .int .i64 k ∧ Hd (Bl wq wr) ∧ Hd (∀ j, j < k → (x.key j).v.b ∈ (if x.sn = 0 then body else outs x x.sn))) (fun i _ => x.on - (intOf i).toNat)
  case atStart => exact ⟨0, nZ, rfl, HBx, fun j hj => absurd hj nN⟩
  clear HBx
  obtain ⟨k, hk, rfl, HB4, HK4⟩ := hrel
  have y5 := (HBX.o wr (HQB.o _ HB4.o)).2 5 _ rfl
  by_cases hlk : k < x.on
  · have hlkz : (k : Int) < (x.on : Int) := by omega
    obtain ⟨b, off, eS, _, hbs, hcs⟩ := HKR.o.resolve_left (by omega)
    have z0 : wr.cell? ⟨b, off + k * 2, none⟩ = some (.slice (x.key k).v.a (x.key k).v.len (x.key k).v.cap) := ((HQB.o _ HB4.o).cell (p := ⟨b, off + k * 2, none⟩) hbs).trans (hcs k hlk 0 _ rfl)
    rw [eS] at y5
    clear hcs eS
    have Z := HHO.o (x.key k).v wr (HKL.o k hlk) HB4.o
    go_wp2_with fail
    refine Z.mono ?_
    rintro e W7 ⟨q7, rfl, hq7, hb7⟩
    have HB7 : Hd (Bl wq W7) := bl_trans HB4.o hb7
    clear Z hb7 z0 y5
    cases q7
    · have HNO : Hd (¬ SelsP body x) := fun hh => by
       have h := hq7.2 (show _ by have h1 := hh.o k hlk; rw [if_neg HZ0.o] at h1; exact h1)
       cases h
      clear hq7
      go_wp2
      go_ret
      exact Tells.no HNO.o (HWW.o _ (HQB.o _ HB7.o))
    have HN7 : Hd ((x.key k).v.b ∈ (if x.sn = 0 then body else outs x x.sn)) := (show _ by have h1 := hq7.1 rfl; rw [if_neg HZ0.o]; exact h1)
    clear hq7
    go_wp2
    go_roundw
    case rel =>
     refine ⟨k + 1, by omega, by go_num, HB7, fun j hj => ?_⟩
     by_cases e : j = k
     · subst e
       exact HN7.o
     exact HK4.o j (by omega)
    case measure => simp [intOf]; omega
  obtain rfl : k = x.on := by omega
  have hlkz : ¬ (x.on : Int) < (x.on : Int) := by omega
  go_wp2
  go_ret
  exact Tells.yes ⟨HSq.o, HGq.o, HPq.o, HK4.o⟩ (HWW.o _ (HQB.o _ HB4.o))
end Go.Proofs.YthljoojcpbignaaGreatDoor
