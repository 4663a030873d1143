import Derived.Test.YthljoojcpbignaaGreatDoorMk39
import Derived.Test.YthljoojcpbignaaGreatDoorMk19
import Derived.Deep.CutRange
namespace Go.Proofs.YthljoojcpbignaaGreatDoor
open Go.RowKit Go.Deep
set_option maxHeartbeats 40000000
set_option maxRecDepth 100000
def SayL (c : WC) (e : UT) : Prop := ∀ (v : Value) (bs : List Int) (W : World), WQ c W v bs → bs.length + 700 * usz e ≤ 900000 → Calls Tryz.prog 119 #[.pointer (some ⟨c.g, 0, none⟩), .agg #[.int .i64 e.d.k, .slice e.d.p.s.v.a e.d.p.s.v.len e.d.p.s.v.cap, .int .i64 e.d.p.s.t.t.k, .slice e.d.p.s.t.t.a e.d.p.s.t.t.len e.d.p.s.t.t.cap, .int .i64 e.d.p.s.t.t.n, .int .i64 e.d.p.s.t.t.s, .slice e.d.p.p.v.a e.d.p.p.v.len e.d.p.p.v.cap, .int .i64 e.d.p.p.t.t.k, .slice e.d.p.p.t.t.a e.d.p.p.t.t.len e.d.p.p.t.t.cap, .int .i64 e.d.p.p.t.t.n, .int .i64 e.d.p.p.t.t.s, .slice e.d.p.o.v.a e.d.p.o.v.len e.d.p.o.v.cap, .int .i64 e.d.p.o.t.t.k, .slice e.d.p.o.t.t.a e.d.p.o.t.t.len e.d.p.o.t.t.cap, .int .i64 e.d.p.o.t.t.n, .int .i64 e.d.p.o.t.t.s, .int .i64 e.d.e.d.k, .int .i64 e.d.e.d.op, .slice e.d.e.d.v.a e.d.e.d.v.len e.d.e.d.v.cap, .int .i64 e.d.e.d.t.t.k, .slice e.d.e.d.t.t.a e.d.e.d.t.t.len e.d.e.d.t.t.cap, .int .i64 e.d.e.d.t.t.n, .int .i64 e.d.e.d.t.t.s, .slice e.d.e.d.ka e.d.e.d.n e.d.e.d.kc, .slice e.d.v.a e.d.v.len e.d.v.cap, .slice e.d.ta e.d.tb.length e.d.tc, .slice e.d.aa e.d.an e.d.ac, .slice e.d.ba e.d.bn e.d.bc]] W (PutQ c v (bs ++ uTx e) W)
theorem group_of (c : WC) (a : Option Addr) (cap n : Nat) (kid : Nat → UT) (hn : n ≤ 1048576) (hR : KRow 0 c.w0 28 a n (fun i => (kid i).d.cells)) (hL : ∀ i, i < n → (uTx (kid i)).length ≤ 700 * usz (kid i)) (IH : ∀ i, i < n → SayL c (kid i)) : SayW c a cap n kid := by
 intro v bs w h hm
 have H0 := iH h
 have HR := iH hR
 have HI := iH IH
 have HLN : Hd (∀ k, k < n → (bs ++ [123, 32] ++ catN k (fun i => uTx (kid i))).length + 700 * usz (kid k) ≤ 900000) := fun k hk => by
  simp only [lA, lC, lN]
  have h1 := catN_len (n := k) (f := (fun i => uTx (kid i))) (c := fun i => usz (kid i)) (m := 700) (fun i hi => hL i (by omega))
  have h3 := sumN_mono (f := fun i => usz (kid i)) (show k + 1 ≤ n by omega)
  have h4 : sumN (k + 1) (fun i => usz (kid i)) = sumN k (fun i => usz (kid i)) + usz (kid k) := rfl
  omega
 have HLE : Hd ((bs ++ [123, 32] ++ catN n (fun i => uTx (kid i))).length ≤ 900000) := (show _ ≤ _ by
  simp only [lA, lC, lN]
  have h1 := catN_len (n := n) (f := (fun i => uTx (kid i))) (c := fun i => usz (kid i)) (m := 700) hL
  omega)
 have HTX : Hd (bs ++ [123, 32] ++ catN n (fun i => uTx (kid i)) ++ [125, 32] = bs ++ gTx n kid) := (show _ = _ by unfold gTx; simp)
 have hb0 : bs.length ≤ 900000 := by omega
 clear h hR IH hm hL
 go_in
 go_wp2_with fail
 refine (put1 c ⟨#[123]⟩ v bs w H0.o (by decide) (by rw [show (ByteArray.mk #[123]).size = 1 from rfl]; omega)).mono ?_
 rintro e z0 ⟨v0, rfl, hQ0, hK0⟩
 have HQ0 : Hd (WQ c z0 v0 (bs ++ [123, 32])) := hQ0
 have HK0 := iH hK0
 clear hQ0 hK0 H0
 go_wp2_with fail
 go_loopw [11] (fun i wr => ∃ (k : Nat) (v' : Value), k ≤ n ∧ i = .int .i64 k ∧ Hd (WQ c wr v' (bs ++ [123, 32] ++ catN k (fun i => uTx (kid i)))) ∧ Hd (KQ c.g v w v' wr)) (fun i _ => n - (intOf i).toNat)
 case atStart => exact ⟨0, v0, nZ, rfl, (show Hd (WQ c _ v0 (bs ++ [123, 32] ++ [])) by rw [List.append_nil]; exact HQ0), HK0⟩
 clear HQ0 HK0
 obtain ⟨k, v', hk, rfl, HQr, HKr⟩ := hrel
 by_cases hlk : k < n
 rotate_left
 · obtain rfl : k = n := by omega
   have hlkz : ¬ (k : Int) < (k : Int) := by omega
   go_wp2_with fail
   refine (put1 c ⟨#[125]⟩ v' _ _ HQr.o (by decide) (by have := HLE.o; rw [show (ByteArray.mk #[125]).size = 1 from rfl]; omega)).mono ?_
   rintro e z5 ⟨v5, rfl, hQ5, hK5⟩
   have HR5 := iH (PutQ.to ⟨v5, rfl, hQ5, HKr.o.trans hK5⟩ HTX.o)
   clear hQ5 hK5 HQr HKr
   go_wp2
   go_end0
   exact HR5.o
 have hlkz : (k : Int) < (n : Int) := by omega
 obtain ⟨b, off, rfl, _, hlt, hck⟩ := HR.o.resolve_left (by omega)
 have hcx : wr.rangeAt b (off + k * 28) (kid k).d.cl := fun i u hu => (HQr.o.bl.cell (p := ⟨b, off + k * 28 + i, none⟩) hlt).trans (hck k hlk i u hu)
 have hlen := HLN.o k hlk
 have HIK := iH (HI.o k hlk)
 have HSU : Hd (bs ++ [123, 32] ++ catN (k + 1) (fun i => uTx (kid i)) = (bs ++ [123, 32] ++ catN k (fun i => uTx (kid i))) ++ uTx (kid k)) := (show bs ++ [123, 32] ++ (catN k _ ++ uTx (kid k)) = _ by rw [← List.append_assoc])
 generalize bs ++ [123, 32] ++ catN k (fun i => uTx (kid i)) = us at *
 have hth := (OB.new wr zUa 103).there 0 28 (by simp)
 have one1 : ((kid k).d.ar : Array Value).all (·.oneCell') = true := UN.one (kid k).d
 have HBk : Hd (Bl wr ((wr.alloc (.cells zUa 103)).setCells wr.heap.size 0 (kid k).d.cl)) := below_sets _ nR _ _ _ (bl_a _)
 have HS0 : Hd (WS c wr v' v' us (kid k).d.cl ((wr.alloc (.cells zUa 103)).setCells wr.heap.size 0 (kid k).d.cl)) := ⟨HQr.o.below HBk.o, KQ.of_below HBk.o, ((OB.new wr zUa 103).put (kid k).d.cl 0 (kid k).d.cl (show 0 + 28 ≤ 28 by omega) rfl).box, fun e => by have := (HQr.o.own.2 _ e).2; omega, HQr.o.lt⟩
 clear hck
 go_wp2_with (first | (with_reducible refine wpq_at ?_; refine wpList_load_mid rfl 103 _ rfl b (off + k * 28) rfl (kid k).d.cl _ hcx Tryz.underlying103 rfl (by kernel_rfl) ?_; try simp only [Act.put, sA, zA, cA]) | (with_reducible refine wpq_at ?_; refine store_stop 103 (.tmp 5) (.tmp 14) rfl ?_))
 change wpList _ _ _ _ _ _
 refine wpList_store_mid rfl 103 _ _ rfl wr.heap.size 0 (kid k).d.ar rfl rfl hth (by kernel_rfl) one1 ?_
 try simp only [Act.put]
 generalize ((wr.alloc (.cells zUa 103)).setCells wr.heap.size 0 (kid k).d.cl) = W1 at *
 clear hcx hth one1 HBk
 have ld := HS0.o.bx.range 0 (kid k).d.cl rfl
 go_wp2_with (with_reducible refine wpq_at ?_; refine wpList_load_mid rfl 103 _ rfl wr.heap.size 0 rfl (kid k).d.cl _ ld Tryz.underlying103 rfl (by kernel_rfl) ?_; try simp only [Act.put, sA, zA, cA])
 clear ld
 refine (HIK.o v' us _ HS0.o.wq hlen).mono ?_
 rintro e z5 ⟨v5, rfl, hQ5, hK5⟩
 have HQ5 : Hd (WQ c z5 v5 (bs ++ [123, 32] ++ catN (k + 1) (fun i => uTx (kid i)))) := (show WQ _ _ _ _ by rw [HSU.o]; exact hQ5)
 have HK5 := iH (HKr.o.trans (HS0.o.kq.trans hK5))
 clear hQ5 hK5 HQr HKr HS0
 go_wp2
 go_roundw
 case rel => exact ⟨k + 1, v5, by omega, by go_num, HQ5, HK5⟩
 case measure => simp [intOf]; omega
theorem sayL_any (c : WC) (r1 r2 : Nat) (ht : Tab c.w0) (hU : URules c r1) (hX : XRules c r2) (e : UT) : ∀ (deep : Int), e.lies 0 c.w0 → uOk e deep → SayL c e := by
 induction e with
 | nil => exact fun _ h => False.elim h
 | mk d ka kb ia ib =>
  intro deep hl hok v bs W hW hn
  have hp := hl.parts
  have htm := hl.terms
  obtain ⟨_, _, _, _, _, ⟨an, aR⟩, ⟨bn, bR⟩, hka, hkb⟩ := hl
  have hok' := hok
  obtain ⟨_, hN, hE, hA, hB⟩ := hok
  have IA := group_of c d.aa d.ac d.an ka an aR (fun i hi => uTx_len (hA i hi)) fun i hi => ia i (deep + 1) (hka i hi) (hA i hi)
  have IB := group_of c d.ba d.bc d.bn kb bn bR (fun i hi => uTx_len (hB i hi)) fun i hi => ib i (deep + 1) (hkb i hi) (hB i hi)
  have hs : usz (.mk d ka kb) = ownU d + (sumN d.an (fun i => usz (ka i)) + sumN d.bn (fun i => usz (kb i))) := rfl
  have ho : 1 ≤ ownU d ∧ (hasX d.k → 1 + esz d.e ≤ ownU d) := by
   unfold ownU
   split
   · exact ⟨by omega, fun _ => by omega⟩
   rename_i hh
   exact ⟨by omega, fun h => absurd h hh⟩
  have hX' : uTx (.mk d ka kb) = if d.k = 0 then itTx d.p.s ++ (itTx d.p.p ++ (itTx d.p.o ++ [46, 32])) else if d.k = 1 then [79, 80, 84, 73, 79, 78, 65, 76, 32] ++ gTx d.an ka
   else if d.k = 2 then [85, 78, 73, 79, 78, 32] ++ (gTx d.an ka ++ gTx d.bn kb) else if d.k = 3 then [77, 73, 78, 85, 83, 32] ++ gTx d.an ka else if d.k = 4 then [70, 73, 76, 84, 69, 82, 32] ++ eTx d.e else if d.k = 5 then [66, 73, 78, 68, 32] ++ (eTx d.e ++ vTx d.v.b)
   else [86, 65, 76, 85, 69, 83, 32] ++ (vTx d.v.b ++ ([123, 32] ++ (catN d.tb.length (fun i => tTx (tbG d.tb i)) ++ [125, 32]))) := uTx_at (e := .mk d ka kb) (fun h => UT.noConfusion h)
  refine elem_of c d r1 v bs W hW ht hU hp.1 hN (by omega) _ (fun h0 => by rw [hX', if_pos h0]) fun k hk6 hkd => ?_
  rcases (by omega : k = 0 ∨ k = 1 ∨ k = 2 ∨ k = 3 ∨ k = 4 ∨ k = 5) with rfl | rfl | rfl | rfl | rfl | rfl
  · have hd : d.k = 1 := by omega
    refine ⟨gTx d.an ka, by rw [hX', hd]; rfl, fun v' bs' W' hW' hb' => ?_⟩
    exact wgroup_any c d ka IA v' bs' W' hW' (by omega)
  · have hd : d.k = 2 := by omega
    refine ⟨gTx d.an ka ++ gTx d.bn kb, by rw [hX', hd]; rfl, fun v' bs' W' hW' hb' => ?_⟩
    have hg : (gTx d.an ka).length ≤ 700 * sumN d.an (fun i => usz (ka i)) + 4 := by
     have h1 := catN_len (n := d.an) (f := fun i => uTx (ka i)) (c := fun i => usz (ka i)) (m := 700) (fun i hi => uTx_len (hA i hi))
     unfold gTx
     simp only [lA, lC, lN]
     omega
    exact (union_any c d ka kb IA IB v' bs' W' hW' hg (by omega)).mono fun e w' h => h.to (by simp)
  · have hd : d.k = 3 := by omega
    refine ⟨gTx d.an ka, by rw [hX', hd]; rfl, fun v' bs' W' hW' hb' => ?_⟩
    exact wgroup_any c d ka IA v' bs' W' hW' (by omega)
  · have hd : d.k = 4 := by omega
    have he := ho.2 (.inl hd)
    refine ⟨eTx d.e, by rw [hX', hd]; rfl, fun v' bs' W' hW' hb' => ?_⟩
    exact filter_any c d (sayX_any c r2 ht hX d.e (deep + 1) hp.2.1 (hE (.inl hd))) v' bs' W' hW' (by omega)
  · have hd : d.k = 5 := by omega
    have he := ho.2 (.inr hd)
    refine ⟨eTx d.e ++ vTx d.v.b, by rw [hX', hd]; rfl, fun v' bs' W' hW' hb' => ?_⟩
    exact (bind_any c d (sayX_any c r2 ht hX d.e (deep + 1) hp.2.1 (hE (.inr hd))) hp.2.2 (hN.v1 (.inl hd)) v' bs' W' hW' (eTx_len (hE (.inr hd))) (by omega)).mono fun e w' h => h.to (by simp)
  have hd : d.k = 6 := by omega
  refine ⟨vTx d.v.b ++ ([123, 32] ++ (catN d.tb.length _ ++ [125, 32])), by rw [hX', hd]; rfl, fun v' bs' W' hW' hb' => ?_⟩
  exact (values_any c d hp.2.2 (hN.v1 (.inr hd)) ht htm hN.tn hN.tm v' bs' W' hW' (by omega)).mono fun e w' h => h.to (by simp)
theorem digitsL_most {n : Nat} (h : n ≤ 999) : 1 ≤ (digitsL n).length ∧ (digitsL n).length ≤ 20 := ⟨digitsL_pos n, Nat.le_trans (digitsL_len 2 n (show n < 1000 by omega)) (by omega)⟩
def InR (x : QY) (k : Nat) : Prop := match k with | 0 => 0 < x.gn | 1 => 0 < x.on | 2 => x.lim ≠ -1 | _ => 0 < x.off
theorem isIn0 (x : QY) (w : World) : Calls Tryz.prog 170 #[.agg x.ar] w (Tells (InR x 0) w) := by
 have HB : Hd (Bl w (w.alloc (.cells x.ar 34))) := bl_a _
 by_cases h0 : 0 < x.gn
 · have HP : Hd (InR x 0) := h0
   have hz : decide (0 < x.gn) = true := by simp [h0]
   clear h0
   go_in
   go_wp2
   go_ret
   first | exact Tells.yes HP.o HB.o | (simp only [Array.getD]; simp [hz]; exact Tells.yes HP.o HB.o)
 have HP : Hd (¬ InR x 0) := h0
 have hz : decide (0 < x.gn) = false := by simp [h0]
 clear h0
 go_in
 go_wp2
 go_ret
 first | exact Tells.no HP.o HB.o | (simp only [Array.getD]; simp [hz]; exact Tells.no HP.o HB.o)
theorem isIn1 (x : QY) (w : World) : Calls Tryz.prog 175 #[.agg x.ar] w (Tells (InR x 1) w) := by
 have HB : Hd (Bl w (w.alloc (.cells x.ar 34))) := bl_a _
 by_cases h0 : 0 < x.on
 · have HP : Hd (InR x 1) := h0
   have hz : decide (0 < x.on) = true := by simp [h0]
   clear h0
   go_in
   go_wp2
   go_ret
   first | exact Tells.yes HP.o HB.o | (simp only [Array.getD]; simp [hz]; exact Tells.yes HP.o HB.o)
 have HP : Hd (¬ InR x 1) := h0
 have hz : decide (0 < x.on) = false := by simp [h0]
 clear h0
 go_in
 go_wp2
 go_ret
 first | exact Tells.no HP.o HB.o | (simp only [Array.getD]; simp [hz]; exact Tells.no HP.o HB.o)
theorem isIn2 (x : QY) (w : World) : Calls Tryz.prog 180 #[.agg x.ar] w (Tells (InR x 2) w) := by
 have HB : Hd (Bl w (w.alloc (.cells x.ar 34))) := bl_a _
 by_cases h0 : x.lim ≠ -1
 · have HP : Hd (InR x 2) := h0
   have hz : (x.lim != -1) = true := by simp [h0]
   clear h0
   go_in
   go_wp2
   go_ret
   first | exact Tells.yes HP.o HB.o | (simp only [Array.getD]; simp [hz]; exact Tells.yes HP.o HB.o)
 have HP : Hd (¬ InR x 2) := h0
 have hz : (x.lim != -1) = false := by simpa using h0
 clear h0
 go_in
 go_wp2
 go_ret
 first | exact Tells.no HP.o HB.o | (simp only [Array.getD]; simp [hz]; exact Tells.no HP.o HB.o)
theorem isIn3 (x : QY) (w : World) : Calls Tryz.prog 185 #[.agg x.ar] w (Tells (InR x 3) w) := by
 have HB : Hd (Bl w (w.alloc (.cells x.ar 34))) := bl_a _
 by_cases h0 : 0 < x.off
 · have HP : Hd (InR x 3) := h0
   have hz : x.off > 0 := by omega
   clear h0
   go_in
   go_wp2
   go_ret
   first | exact Tells.yes HP.o HB.o | (simp only [Array.getD]; simp [hz]; exact Tells.yes HP.o HB.o)
 have HP : Hd (¬ InR x 3) := h0
 have hz : ¬ x.off > 0 := by omega
 clear h0
 go_in
 go_wp2
 go_ret
 first | exact Tells.no HP.o HB.o | (simp only [Array.getD]; simp [hz]; exact Tells.no HP.o HB.o)
theorem tail0 (c : WC) (x : QY) (v : Value) (bs : List Int) (w : World) (h : WQ c w v bs) (hR : KRow 0 c.w0 1 x.ga x.gn (fun i => (x.grp i).cells)) (hn : x.gn ≤ 4) (hXX : ∀ i, i < x.gn → BsF 0 c.w0 (x.grp i) ∧ nameOk (x.grp i).b = true) (hm : bs.length ≤ 900000) : Calls Tryz.prog 173 #[.pointer (some ⟨c.g, 0, none⟩), .agg x.ar] w (PutQ c v (bs ++ catN x.gn (fun i => vTx (x.grp i).b)) w) := by
 have HS0 := iH (WS.new h x.ar 34)
 have HC := iH (fun W v (hW : WQ c W v bs) => variables_any c x.ga x.gc x.gn x.grp v bs W hW (by omega) hR hXX hm)
 clear h hR hXX hm hn
 go_in
 go_upto_region 1 with fail
 generalize (w.alloc (.cells x.ar 34)) = W1 at *
 have y := HS0.o.bx.2 4 _ rfl
 go_wp2_with fail
 refine (HC.o _ v HS0.o.wq).mono ?_
 rintro e z1 ⟨v1, rfl, hQ1, hK1⟩
 have HS1 := iH (HS0.o.step hQ1 hK1)
 clear hQ1 hK1 HS0
 go_wp2
 go_end0
 exact HS1.o.put
theorem tail1 (c : WC) (x : QY) (v : Value) (bs : List Int) (w : World) (h : WQ c w v bs) (hR : KRow 0 c.w0 2 x.oa x.on (fun i => (x.key i).cells)) (hn : x.on ≤ 4) (hXX : ∀ i, i < x.on → BsF 0 c.w0 (x.key i).v ∧ nameOk (x.key i).v.b = true) (hm : bs.length ≤ 900000) : Calls Tryz.prog 178 #[.pointer (some ⟨c.g, 0, none⟩), .agg x.ar] w (PutQ c v (bs ++ catN x.on (fun i => keyTx (x.key i))) w) := by
 have HS0 := iH (WS.new h x.ar 34)
 have HC := iH (fun W v (hW : WQ c W v bs) => keys_any c x.oa x.oc x.on x.key v bs W hW (by omega) hR hXX hm)
 clear h hR hXX hm hn
 go_in
 go_upto_region 1 with fail
 generalize (w.alloc (.cells x.ar 34)) = W1 at *
 have y := HS0.o.bx.2 5 _ rfl
 go_wp2_with fail
 refine (HC.o _ v HS0.o.wq).mono ?_
 rintro e z1 ⟨v1, rfl, hQ1, hK1⟩
 have HS1 := iH (HS0.o.step hQ1 hK1)
 clear hQ1 hK1 HS0
 go_wp2
 go_end0
 exact HS1.o.put
theorem tail2 (c : WC) (x : QY) (v : Value) (bs : List Int) (w : World) (h : WQ c w v bs) (ht : Tab c.w0) (h0 : 0 ≤ x.lim) (h9 : x.lim ≤ 999) (hm : bs.length ≤ 900000) : Calls Tryz.prog 183 #[.pointer (some ⟨c.g, 0, none⟩), .agg x.ar] w (PutQ c v (bs ++ numTx x.lim) w) := by
 have HS0 := iH (WS.new h x.ar 34)
 have HT := iH ht
 have HI := iH (fun W (hW : Tab W) => itoa_any x.lim W h0 (by omega) hW)
 have HDL : Hd (1 ≤ (digitsL x.lim.toNat).length ∧ (digitsL x.lim.toNat).length ≤ 20) := digitsL_most (by omega)
 clear h ht h0 h9
 go_in
 go_upto_region 1 with fail
 generalize (w.alloc (.cells x.ar 34)) = W1 at *
 have y := HS0.o.bx.2 6 _ rfl
 go_wp2_with fail
 refine (HI.o _ (HT.o.below HS0.o.wq.bl)).mono ?_
 rintro e z0 ⟨st, rfl, hst, hb0⟩
 have HSa := iH (HS0.o.below hb0)
 have HST := iH hst
 have HSZ : Hd (st.size = (digitsL x.lim.toNat).length) := (show _ = _ by rw [← hst, numsOf_len])
 clear hst hb0 y
 go_wp2_with fail
 refine (put1 c st v bs _ HSa.o.wq (by rw [HSZ.o]; exact HDL.o.1) (by have := HDL.o.2; rw [HSZ.o]; omega)).mono ?_
 rintro e z1 ⟨v1, rfl, hQ1, hK1⟩
 have HS1 : Hd (WS c w v v1 (bs ++ numTx x.lim) x.cl z1) := (show WS _ _ _ _ _ _ _ by unfold numTx; rw [← HST.o]; exact HSa.o.step hQ1 hK1)
 clear hQ1 hK1 HS0
 go_wp2
 go_end0
 exact HS1.o.put
theorem tail3 (c : WC) (x : QY) (v : Value) (bs : List Int) (w : World) (h : WQ c w v bs) (ht : Tab c.w0) (h0 : 0 ≤ x.off) (h9 : x.off ≤ 999) (hm : bs.length ≤ 900000) : Calls Tryz.prog 187 #[.pointer (some ⟨c.g, 0, none⟩), .agg x.ar] w (PutQ c v (bs ++ numTx x.off) w) := by
 have HS0 := iH (WS.new h x.ar 34)
 have HT := iH ht
 have HI := iH (fun W (hW : Tab W) => itoa_any x.off W h0 (by omega) hW)
 have HDL : Hd (1 ≤ (digitsL x.off.toNat).length ∧ (digitsL x.off.toNat).length ≤ 20) := digitsL_most (by omega)
 clear h ht h0 h9
 go_in
 go_upto_region 1 with fail
 generalize (w.alloc (.cells x.ar 34)) = W1 at *
 have y := HS0.o.bx.2 7 _ rfl
 go_wp2_with fail
 refine (HI.o _ (HT.o.below HS0.o.wq.bl)).mono ?_
 rintro e z0 ⟨st, rfl, hst, hb0⟩
 have HSa := iH (HS0.o.below hb0)
 have HST := iH hst
 have HSZ : Hd (st.size = (digitsL x.off.toNat).length) := (show _ = _ by rw [← hst, numsOf_len])
 clear hst hb0 y
 go_wp2_with fail
 refine (put1 c st v bs _ HSa.o.wq (by rw [HSZ.o]; exact HDL.o.1) (by have := HDL.o.2; rw [HSZ.o]; omega)).mono ?_
 rintro e z1 ⟨v1, rfl, hQ1, hK1⟩
 have HS1 : Hd (WS c w v v1 (bs ++ numTx x.off) x.cl z1) := (show WS _ _ _ _ _ _ _ by unfold numTx; rw [← HST.o]; exact HSa.o.step hQ1 hK1)
 clear hQ1 hK1 HS0
 go_wp2
 go_end0
 exact HS1.o.put
def qC (x : QY) : List Value := [.bool x.ask, .bool x.dis, .slice x.sa x.sn x.sc, .slice x.ba x.bn x.bc, .slice x.ga x.gn x.gc, .slice x.oa x.on x.oc, .int .i64 x.lim, .int .i64 x.off]
theorem selection_any (c : WC) (x : QY) (v : Value) (bs : List Int) (w : World) (h : WQ c w v bs) (hR : KRow 0 c.w0 3 x.sa x.sn (fun i => (x.sel i).cells)) (h8 : x.sn ≤ 8)
 (hXX : ∀ i, i < x.sn → (x.sel i).lies 0 c.w0 ∧ ((x.sel i).fn = 0 ∨ (x.sel i).fn = 1 ∨ (x.sel i).fn = 2) ∧ nameOk (x.sel i).v.b = true ∧ ((x.sel i).fn ≠ 0 → nameOk (x.sel i).of.b = true)) (hm : bs.length ≤ 800000) :
 Calls Tryz.prog 79 #[.pointer (some ⟨c.g, 0, none⟩), .agg x.ar] w (PutQ c v (bs ++ headTx x) w) := by
 have HS0 : Hd (WS c w v v (bs) (qC x) (w.alloc (.cells x.ar 34))) := WS.new h _ 34
 have HLd := iH (dis_len x)
 have HLs := iH (star_len x)
 have HLK : Hd (∀ k, k ≤ x.sn → (catN k (fun i => selTx (x.sel i))).length ≤ 328) := fun k hk => by
  have h1 := catN_most (n := k) (f := (fun i => selTx (x.sel i))) (m := 41) (fun i hi => sel_len (hXX i (by omega)).2.2.1 (hXX i (by omega)).2.2.2)
  omega
 have HRS := iH hR
 have HS8 := iH h8
 have HXX := iH hXX
 clear h hR h8 hXX
 go_in
 go_upto_region 1 with fail
 generalize (w.alloc (.cells x.ar 34)) = W1 at *
 go_wp2_with fail
 refine (put1 c _ v (bs) _ HS0.o.wq (by decide) (by skip; rw [show (ByteArray.mk #[83, 69, 76, 69, 67, 84]).size = 6 from rfl]; (try simp only [lA, lC, lN]); omega)).mono ?_
 rintro e z1 ⟨v1, rfl, hQ1, hK1⟩
 have HS1 : Hd (WS c w v v1 (bs ++ [83, 69, 76, 69, 67, 84, 32]) (qC x) z1) := HS0.o.step hQ1 hK1
 clear hQ1 hK1 HS0
 obtain ⟨dd, hdd⟩ : ∃ dd, dd = x.dis := ⟨_, rfl⟩
 have HDD := iH hdd.symm
 have y1 : z1.cell? ⟨w.heap.size, 1, none⟩ = some (.bool dd) := by rw [hdd]; exact HS1.o.bx.2 1 _ rfl
 clear hdd
 go_upto_if 10 with fail
 go_cut [] from 9 (fun wx => ∃ v', Hd (WS c w v v' (bs ++ [83, 69, 76, 69, 67, 84, 32] ++ disTx x) (qC x) wx))
 case first =>
  cases dd
  · have HSE : Hd (WS c w v v1 (bs ++ [83, 69, 76, 69, 67, 84, 32] ++ disTx x) (qC x) z1) := (show WS _ _ _ _ _ _ _ by unfold disTx; rw [if_neg (by rw [HDD.o]; simp), List.append_nil]; exact HS1.o)
    clear HS1 y1
    go_wp2_with fail
    go_meet
    case rel => exact ⟨_, HSE⟩
  have HDE := iH (show disTx x = _ by unfold disTx; rw [if_pos HDD.o])
  clear y1
  go_wp2_with fail
  refine (put1 c _ v1 _ _ HS1.o.wq (by decide) (by skip; rw [show (ByteArray.mk #[68, 73, 83, 84, 73, 78, 67, 84]).size = 8 from rfl]; (try simp only [lA, lC, lN]); omega)).mono ?_
  rintro e z2 ⟨v2, rfl, hQ2, hK2⟩
  have HSE : Hd (WS c w v v2 (bs ++ [83, 69, 76, 69, 67, 84, 32] ++ disTx x) (qC x) z2) := (show WS _ _ _ _ _ _ _ by rw [HDE.o]; exact HS1.o.step hQ2 hK2)
  clear hQ2 hK2 HS1
  go_wp2_with fail
  go_meet
  case rel => exact ⟨_, HSE⟩
 obtain ⟨v2, HS2⟩ := hcut
 clear HS1 y1 HDD
 have y2 := HS2.o.bx.2 2 _ rfl
 go_upto_if 17 with fail
 go_cut [] from 14 (fun wx => ∃ v', Hd (WS c w v v' (bs ++ [83, 69, 76, 69, 67, 84, 32] ++ disTx x ++ starTx x) (qC x) wx))
 case first =>
  by_cases hz : x.sn = 0
  · have HDE := iH (show starTx x = _ by unfold starTx; rw [if_pos hz])
    have kz : ((x.sn : Int) == 0) = true := by simp [hz]
    clear hz
    go_wp2_with fail
    refine (put1 c ⟨#[42]⟩ v2 _ _ HS2.o.wq (by decide) (by have l1 := HLd.o; have l2 := HLs.o; rw [show (ByteArray.mk #[42]).size = 1 from rfl]; (try simp only [lA, lC, lN]); omega)).mono ?_
    rintro e z3 ⟨v3, rfl, hQ3, hK3⟩
    have HSE : Hd (WS c w v v3 (bs ++ [83, 69, 76, 69, 67, 84, 32] ++ disTx x ++ starTx x) (qC x) z3) := (show WS _ _ _ _ _ _ _ by rw [HDE.o]; exact HS2.o.step hQ3 hK3)
    clear hQ3 hK3 HS2 y2
    go_wp2_with fail
    go_meet
    case rel => exact ⟨_, HSE⟩
  have HSE : Hd (WS c w v v2 (bs ++ [83, 69, 76, 69, 67, 84, 32] ++ disTx x ++ starTx x) (qC x) wc) := (show WS _ _ _ _ _ _ _ by unfold starTx; rw [if_neg hz, List.append_nil]; exact HS2.o)
  have kz : ((x.sn : Int) == 0) = false := by simp [hz]
  clear hz HS2
  go_wp2_with fail
  go_meet
  case rel => exact ⟨_, HSE⟩
 obtain ⟨v3, HS3⟩ := hcut
 clear HS2 y2
 have y2 := HS3.o.bx.2 2 _ rfl
 go_wp2_with fail
 clear y2
 go_loopw [24] (fun i wr => ∃ (k : Nat) (v' : Value), k ≤ x.sn ∧ i = .int .i64 k ∧ Hd (WS c w v v' (bs ++ [83, 69, 76, 69, 67, 84, 32] ++ disTx x ++ starTx x ++ catN k (fun i => selTx (x.sel i))) (qC x) wr)) (fun i _ => x.sn - (intOf i).toNat)
 case atStart => exact ⟨0, v3, nZ, rfl, (show Hd (WS c w v v3 (bs ++ [83, 69, 76, 69, 67, 84, 32] ++ disTx x ++ starTx x ++ []) _ _) by rw [List.append_nil]; exact HS3)⟩
 clear HS3
 obtain ⟨k, v', hk, rfl, HSr⟩ := hrel
 have lk := HLK.o k hk
 by_cases hlk : k < x.sn
 rotate_left
 · obtain rfl : k = x.sn := by omega
   have hlkz : ¬ (x.sn : Int) < (x.sn : Int) := by omega
   go_wp2_with fail
   refine (put1 c _ v' _ _ HSr.o.wq (by decide) (by have l1 := HLd.o; have l2 := HLs.o; rw [show (ByteArray.mk #[87, 72, 69, 82, 69]).size = 5 from rfl]; (try simp only [lA, lC, lN]); omega)).mono ?_
   rintro e z5 ⟨v5, rfl, hQ5, hK5⟩
   have HS5 : Hd (WS c w v v5 (bs ++ [83, 69, 76, 69, 67, 84, 32] ++ disTx x ++ starTx x ++ catN x.sn (fun i => selTx (x.sel i)) ++ [87, 72, 69, 82, 69, 32]) (qC x) z5) := HSr.o.step hQ5 hK5
   clear hQ5 hK5 HSr
   go_wp2
   go_end0
   exact HS5.o.put.to (by unfold headTx; simp only [List.append_assoc])
 have hlkz : (k : Int) < (x.sn : Int) := by omega
 have hlk8 : k < 8 := by have := HS8.o; omega
 obtain ⟨b, off, hsa, _, hlt, hck⟩ := HRS.o.resolve_left (by omega)
 have hcx : wr.rangeAt b (off + k * 3) (x.sel k).cl := fun i u hu => (HSr.o.wq.bl.cell (p := ⟨b, off + k * 3 + i, none⟩) hlt).trans (hck k hlk i u hu)
 have HXK := iH (HXX.o k hlk)
 have HSU : Hd (bs ++ [83, 69, 76, 69, 67, 84, 32] ++ disTx x ++ starTx x ++ catN (k + 1) (fun i => selTx (x.sel i)) = (bs ++ [83, 69, 76, 69, 67, 84, 32] ++ disTx x ++ starTx x ++ catN k (fun i => selTx (x.sel i))) ++ selTx (x.sel k)) := (show bs ++ [83, 69, 76, 69, 67, 84, 32] ++ disTx x ++ starTx x ++ (catN k _ ++ selTx (x.sel k)) = _ by rw [← List.append_assoc])
 have HSA := iH (WS.new HSr.o.wq (x.sel k).ar 105)
 have HSO : Hd (WS c w v v' (bs ++ [83, 69, 76, 69, 67, 84, 32] ++ disTx x ++ starTx x ++ catN k (fun i => selTx (x.sel i))) (qC x) (wr.alloc (.cells (x.sel k).ar 105))) := HSr.o.below (bl_a _)
 rw [hsa] at *
 clear hck hsa
 go_wp2_with (with_reducible refine wpl_at ?_; refine wpList_load_mid rfl 105 _ rfl _ _ rfl (x.sel k).cl _ hcx Tryz.underlying105 rfl (by kernel_rfl) ?_; try simp only [Act.put, sA, zA, cA])
 clear hcx
 refine (sel_any c (x.sel k) v' _ _ HSA.o.wq HXK.o.1 HXK.o.2.1 HXK.o.2.2.1 HXK.o.2.2.2 (by have l1 := HLd.o; have l2 := HLs.o; (try simp only [lA, lC, lN]); omega)).mono ?_
 rintro e z5 ⟨v5, rfl, hQ5, hK5⟩
 have HS5 : Hd (WS c w v v5 (bs ++ [83, 69, 76, 69, 67, 84, 32] ++ disTx x ++ starTx x ++ catN (k + 1) (fun i => selTx (x.sel i))) (qC x) z5) := (show WS _ _ _ _ _ _ _ by rw [HSU.o]; exact HSO.o.step hQ5 hK5)
 clear hQ5 hK5 HSr HSA HSO
 go_wp2
 go_roundw
 case rel => exact ⟨k + 1, v5, by omega, by go_num, HS5⟩
 case measure => simp [intOf]; omega
end Go.Proofs.YthljoojcpbignaaGreatDoor
