import Derived.Test.YthljoojcpbignaaGreatDoorMk37
namespace Go.Proofs.YthljoojcpbignaaGreatDoor
open Go.RowKit Go.Deep
set_option maxHeartbeats 40000000
set_option maxRecDepth 100000
def SayW (c : WC) (a : Option Addr) (cap n : Nat) (kid : Nat → UT) : Prop := ∀ (v : Value) (bs : List Int) (W : World), WQ c W v bs → bs.length + 700 * sumN n (fun i => usz (kid i)) + 4 ≤ 900000 → Calls Tryz.prog 80 #[.pointer (some ⟨c.g, 0, none⟩), .slice a n cap] W (PutQ c v (bs ++ gTx n kid) W)
theorem wgroup_any (c : WC) (d : UN) (ka : Nat → UT) (IA : SayW c d.aa d.ac d.an ka) (v : Value) (bs : List Int) (w : World) (h : WQ c w v bs) (hm : bs.length + 700 * sumN d.an (fun i => usz (ka i)) + 4 ≤ 900000) :
 Calls Tryz.prog 150 #[.pointer (some ⟨c.g, 0, none⟩), .agg d.ar] w (PutQ c v (bs ++ gTx d.an ka) w) := by
 have HS0 := iH (WS.new h d.ar 103)
 have HIA := iH IA
 clear h IA
 go_in
 go_upto_region 1 with fail
 generalize (w.alloc (.cells d.ar 103)) = W1 at *
 have y := HS0.o.bx.2 26 _ rfl
 go_wp2_with fail
 refine (HIA.o v bs _ HS0.o.wq hm).mono ?_
 rintro e z1 ⟨v1, rfl, hQ1, hK1⟩
 have HS1 := iH (HS0.o.step hQ1 hK1)
 clear hQ1 hK1 HS0
 clear y
 go_wp2
 go_end0
 exact HS1.o.put
theorem union_any (c : WC) (d : UN) (ka kb : Nat → UT) (IA : SayW c d.aa d.ac d.an ka) (IB : SayW c d.ba d.bc d.bn kb) (v : Value) (bs : List Int) (w : World) (h : WQ c w v bs) (hl : (gTx d.an ka).length ≤ 700 * sumN d.an (fun i => usz (ka i)) + 4) (hm : bs.length + 700 * sumN d.an (fun i => usz (ka i)) + 4 + 700 * sumN d.bn (fun i => usz (kb i)) + 4 ≤ 900000) :
 Calls Tryz.prog 152 #[.pointer (some ⟨c.g, 0, none⟩), .agg d.ar] w (PutQ c v (bs ++ gTx d.an ka ++ gTx d.bn kb) w) := by
 have HS0 := iH (WS.new h d.ar 103)
 have HIA := iH IA
 have HIB := iH IB
 have HLA := iH hl
 clear h IA IB hl
 go_in
 go_upto_region 1 with fail
 generalize (w.alloc (.cells d.ar 103)) = W1 at *
 have y := HS0.o.bx.2 26 _ rfl
 go_wp2_with fail
 refine (HIA.o v bs _ HS0.o.wq (by omega)).mono ?_
 rintro e z1 ⟨v1, rfl, hQ1, hK1⟩
 have HS1 := iH (HS0.o.step hQ1 hK1)
 clear hQ1 hK1 HS0
 clear y
 have y := HS1.o.bx.2 27 _ rfl
 go_wp2_with fail
 refine (HIB.o v1 _ _ HS1.o.wq (by have := HLA.o; rw [List.length_append]; omega)).mono ?_
 rintro e z2 ⟨v2, rfl, hQ2, hK2⟩
 have HS2 := iH (HS1.o.step hQ2 hK2)
 clear hQ2 hK2 HS1
 clear y
 go_wp2
 go_end0
 exact HS2.o.put
theorem filter_any (c : WC) (d : UN) (IE : SayX c d.e) (v : Value) (bs : List Int) (w : World) (h : WQ c w v bs) (hm : bs.length + 80 * esz d.e ≤ 900000) :
 Calls Tryz.prog 154 #[.pointer (some ⟨c.g, 0, none⟩), .agg d.ar] w (PutQ c v (bs ++ eTx d.e) w) := by
 have HS0 := iH (WS.new h d.ar 103)
 have HIE := iH IE
 clear h IE
 go_in
 go_upto_region 1 with fail
 generalize (w.alloc (.cells d.ar 103)) = W1 at *
 have le := HS0.o.bx.range 16 d.e.d.cl rfl
 go_wp2_with (with_reducible refine wpq_at ?_; refine ldr rfl rfl rfl Tryz.underlying100 le rfl ?_; try simp only [Act.put, sA, zA, cA])
 refine (HIE.o v bs _ HS0.o.wq hm).mono ?_
 rintro e z1 ⟨v1, rfl, hQ1, hK1⟩
 have HS1 := iH (HS0.o.step hQ1 hK1)
 clear hQ1 hK1 HS0
 clear le
 go_wp2
 go_end0
 exact HS1.o.put
theorem bind_any (c : WC) (d : UN) (IE : SayX c d.e) (hv : BsF 0 c.w0 d.v) (hk : nameOk d.v.b = true) (v : Value) (bs : List Int) (w : World) (h : WQ c w v bs) (hl : (eTx d.e).length ≤ 80 * esz d.e) (hm : bs.length + 80 * esz d.e ≤ 900000) :
 Calls Tryz.prog 156 #[.pointer (some ⟨c.g, 0, none⟩), .agg d.ar] w (PutQ c v (bs ++ eTx d.e ++ vTx d.v.b) w) := by
 have HS0 := iH (WS.new h d.ar 103)
 have HIE := iH IE
 have HV : Hd (BsF 0 c.w0 d.v ∧ nameOk d.v.b = true) := ⟨hv, hk⟩
 have HLE := iH hl
 clear h IE hv hk hl
 go_in
 go_upto_region 1 with fail
 generalize (w.alloc (.cells d.ar 103)) = W1 at *
 have le := HS0.o.bx.range 16 d.e.d.cl rfl
 go_wp2_with (with_reducible refine wpq_at ?_; refine ldr rfl rfl rfl Tryz.underlying100 le rfl ?_; try simp only [Act.put, sA, zA, cA])
 refine (HIE.o v bs _ HS0.o.wq hm).mono ?_
 rintro e z1 ⟨v1, rfl, hQ1, hK1⟩
 have HS1 := iH (HS0.o.step hQ1 hK1)
 clear hQ1 hK1 HS0
 clear le
 have y := HS1.o.bx.2 24 _ rfl
 go_wp2_with fail
 refine (variable_any c d.v v1 (bs ++ eTx d.e) _ HS1.o.wq HV.o.1 HV.o.2 (by have := HLE.o; rw [List.length_append]; omega)).mono ?_
 rintro e z2 ⟨v2, rfl, hQ2, hK2⟩
 have HS2 := iH (HS1.o.step hQ2 hK2)
 clear hQ2 hK2 HS1
 clear y
 go_wp2
 go_end0
 exact HS2.o.put
theorem values_any (c : WC) (d : UN) (hv : BsF 0 c.w0 d.v) (hk : nameOk d.v.b = true) (ht : Tab c.w0) (hR : TRowF 0 c.w0 d.ta d.tb) (h8 : d.tb.length ≤ 8) (hto : ∀ x ∈ d.tb, x.td.ok = true) (v : Value) (bs : List Int) (w : World) (h : WQ c w v bs) (hm : bs.length ≤ 900000) :
 Calls Tryz.prog 158 #[.pointer (some ⟨c.g, 0, none⟩), .agg d.ar] w (PutQ c v (bs ++ vTx d.v.b ++ [123, 32] ++ catN d.tb.length (fun i => tTx (tbG d.tb i)) ++ [125, 32]) w) := by
 try unfold UN.ar
 have HS0 := iH (WS.new h d.ar 103)
 have HV : Hd (BsF 0 c.w0 d.v ∧ nameOk d.v.b = true) := ⟨hv, hk⟩
 have HT := iH ht
 have HTR := iH hR
 have HTO := iH hto
 have HVL := iH (vTx_len hk)
 have HLK := iH (fun k (hk : k ≤ d.tb.length) => tbsTx_len hto k hk)
 clear h hv hk ht hR hto
 go_in
 go_upto_region 1 with fail
 generalize (w.alloc (.cells d.ar 103)) = W1 at *
 have y := HS0.o.bx.2 24 _ rfl
 go_wp2_with fail
 refine (variable_any c d.v v bs _ HS0.o.wq HV.o.1 HV.o.2 (by omega)).mono ?_
 rintro e z1 ⟨v1, rfl, hQ1, hK1⟩
 have HS1 := iH (HS0.o.step hQ1 hK1)
 clear hQ1 hK1 HS0
 clear y
 go_wp2_with fail
 refine (put1 c ⟨#[123]⟩ v1 (bs ++ vTx d.v.b) _ HS1.o.wq (by decide) (by have q1 := HVL.o; rw [show (ByteArray.mk #[123]).size = 1 from rfl]; rw [List.length_append]; omega)).mono ?_
 rintro e z2 ⟨v2, rfl, hQ2, hK2⟩
 have HS2 : Hd (WS c w v v2 (bs ++ vTx d.v.b ++ [123, 32]) d.cl z2) := HS1.o.step hQ2 hK2
 clear hQ2 hK2 HS1
 have y := HS2.o.bx.2 25 _ rfl
 obtain ⟨n, hn⟩ : ∃ n, n = d.tb.length := ⟨_, rfl⟩
 have HNN := iH hn
 rw [← hn] at y h8
 clear hn
 by_cases hn0 : n = 0
 · have HN0 := iH hn0
   rw [hn0] at y
   go_wp2_with fail
   clear y
   go_loopw [16] (fun i wr => i = .int .i64 0 ∧ Hd (WS c w v v2 (bs ++ vTx d.v.b ++ [123, 32]) [.int .i64 d.k, .slice d.p.s.v.a d.p.s.v.len d.p.s.v.cap, .int .i64 d.p.s.t.t.k, .slice d.p.s.t.t.a d.p.s.t.t.len d.p.s.t.t.cap, .int .i64 d.p.s.t.t.n, .int .i64 d.p.s.t.t.s, .slice d.p.p.v.a d.p.p.v.len d.p.p.v.cap, .int .i64 d.p.p.t.t.k, .slice d.p.p.t.t.a d.p.p.t.t.len d.p.p.t.t.cap, .int .i64 d.p.p.t.t.n, .int .i64 d.p.p.t.t.s, .slice d.p.o.v.a d.p.o.v.len d.p.o.v.cap, .int .i64 d.p.o.t.t.k, .slice d.p.o.t.t.a d.p.o.t.t.len d.p.o.t.t.cap, .int .i64 d.p.o.t.t.n, .int .i64 d.p.o.t.t.s, .int .i64 d.e.d.k, .int .i64 d.e.d.op, .slice d.e.d.v.a d.e.d.v.len d.e.d.v.cap, .int .i64 d.e.d.t.t.k, .slice d.e.d.t.t.a d.e.d.t.t.len d.e.d.t.t.cap, .int .i64 d.e.d.t.t.n, .int .i64 d.e.d.t.t.s, .slice d.e.d.ka d.e.d.n d.e.d.kc, .slice d.v.a d.v.len d.v.cap, .slice d.ta d.tb.length d.tc, .slice d.aa d.an d.ac, .slice d.ba d.bn d.bc] wr)) (fun _ _ => 0)
   case atStart => exact ⟨rfl, HS2⟩
   clear HS2
   obtain ⟨rfl, HSr⟩ := hrel
   go_wp2_with fail
   refine (put1 c ⟨#[125]⟩ v2 _ _ HSr.o.wq (by decide) (by have q1 := HVL.o; rw [show (ByteArray.mk #[125]).size = 1 from rfl]; (try simp only [lA, lC, lN]); omega)).mono ?_
   rintro e z5 ⟨v5, rfl, hQ5, hK5⟩
   have HS5 : Hd (WS c w v v5 (bs ++ vTx d.v.b ++ [123, 32] ++ [125, 32]) d.cl z5) := HSr.o.step hQ5 hK5
   clear hQ5 hK5 HSr
   go_wp2
   go_end0
   exact HS5.o.put.to (by rw [← HNN.o, HN0.o]; simp [catN])
 obtain ⟨b2, off2, eT, hbt, hct⟩ := HTR.o.1.resolve_left (fun e => by have := HNN.o; rw [e] at this; exact hn0 this)
 have HCT := iH hct
 rw [eT] at y
 clear hn0 hct eT
 go_wp2_with fail
 clear y
 go_loopw [16] (fun i wr => ∃ (k : Nat) (v' : Value), k ≤ n ∧ i = .int .i64 k ∧ Hd (WS c w v v' (bs ++ vTx d.v.b ++ [123, 32] ++ catN k (fun i => tTx (tbG d.tb i))) [.int .i64 d.k, .slice d.p.s.v.a d.p.s.v.len d.p.s.v.cap, .int .i64 d.p.s.t.t.k, .slice d.p.s.t.t.a d.p.s.t.t.len d.p.s.t.t.cap, .int .i64 d.p.s.t.t.n, .int .i64 d.p.s.t.t.s, .slice d.p.p.v.a d.p.p.v.len d.p.p.v.cap, .int .i64 d.p.p.t.t.k, .slice d.p.p.t.t.a d.p.p.t.t.len d.p.p.t.t.cap, .int .i64 d.p.p.t.t.n, .int .i64 d.p.p.t.t.s, .slice d.p.o.v.a d.p.o.v.len d.p.o.v.cap, .int .i64 d.p.o.t.t.k, .slice d.p.o.t.t.a d.p.o.t.t.len d.p.o.t.t.cap, .int .i64 d.p.o.t.t.n, .int .i64 d.p.o.t.t.s, .int .i64 d.e.d.k, .int .i64 d.e.d.op, .slice d.e.d.v.a d.e.d.v.len d.e.d.v.cap, .int .i64 d.e.d.t.t.k, .slice d.e.d.t.t.a d.e.d.t.t.len d.e.d.t.t.cap, .int .i64 d.e.d.t.t.n, .int .i64 d.e.d.t.t.s, .slice d.e.d.ka d.e.d.n d.e.d.kc, .slice d.v.a d.v.len d.v.cap, .slice d.ta d.tb.length d.tc, .slice d.aa d.an d.ac, .slice d.ba d.bn d.bc] wr)) (fun i _ => n - (intOf i).toNat)
 case atStart => exact ⟨0, v2, nZ, rfl, (show Hd (WS c w v v2 (bs ++ vTx d.v.b ++ [123, 32] ++ []) _ _) by rw [List.append_nil]; exact HS2)⟩
 clear HS2
 obtain ⟨k, v', hk, rfl, HSr⟩ := hrel
 have hkl := HLK.o k (by have := HNN.o; omega)
 by_cases hlk : k < n
 rotate_left
 · obtain rfl : k = n := by omega
   have hlkz : ¬ (k : Int) < (k : Int) := by omega
   go_wp2_with fail
   refine (put1 c ⟨#[125]⟩ v' _ _ HSr.o.wq (by decide) (by have q1 := HVL.o; rw [show (ByteArray.mk #[125]).size = 1 from rfl]; (try simp only [lA, lC, lN]); omega)).mono ?_
   rintro e z5 ⟨v5, rfl, hQ5, hK5⟩
   have HS5 : Hd (WS c w v v5 (bs ++ vTx d.v.b ++ [123, 32] ++ catN k (fun i => tTx (tbG d.tb i)) ++ [125, 32]) d.cl z5) := HSr.o.step hQ5 hK5
   clear hQ5 hK5 HSr
   go_wp2
   go_end0
   exact HS5.o.put.to (by rw [← HNN.o])
 have hlkz : (k : Int) < (n : Int) := by omega
 have hkl2 : k < d.tb.length := by have := HNN.o; omega
 obtain ⟨hx1, hx2⟩ := tbG_at hkl2
 have hcx : wr.rangeAt b2 (off2 + k * 4) [.int .i64 (tbG d.tb k).t.k, .slice (tbG d.tb k).t.a (tbG d.tb k).t.len (tbG d.tb k).t.cap, .int .i64 (tbG d.tb k).t.n, .int .i64 (tbG d.tb k).t.s] := fun j u hu => (HSr.o.wq.bl.cell (p := ⟨b2, off2 + k * 4 + j, none⟩) hbt).trans (by
  have hj : j < 4 := (List.getElem?_eq_some_iff.1 hu).1
  rw [Nat.add_assoc]
  refine HCT.o _ _ ?_
  rw [flat4_get d.tb k j hkl2 hj, ← hx1]
  exact hu)
 have HXK : Hd ((BsF 0 c.w0 (tbG d.tb k).sl ∧ (tbG d.tb k).t.fits) ∧ (tbG d.tb k).td.ok = true) := (show _ ∧ _ by rw [hx1]; exact ⟨HTR.o.2.2 _ hx2, HTO.o _ hx2⟩)
 have HSU : Hd (bs ++ vTx d.v.b ++ [123, 32] ++ catN (k + 1) (fun i => tTx (tbG d.tb i)) = (bs ++ vTx d.v.b ++ [123, 32] ++ catN k (fun i => tTx (tbG d.tb i))) ++ tTx (tbG d.tb k)) := (show bs ++ vTx d.v.b ++ [123, 32] ++ (catN k _ ++ tTx (tbG d.tb k)) = _ by rw [← List.append_assoc])
 clear hx1 hx2 hkl2
 go_wp2_with (with_reducible refine wpl_at ?_; refine ldr rfl rfl rfl Tryz.underlying93 hcx rfl ?_; try simp only [Act.put, sA, zA, cA])
 clear hcx
 refine (term_any c (tbG d.tb k) v' _ _ (HSr.o.wq.below (bl_a _)) HT.o HXK.o.1 HXK.o.2 (by have q1 := HVL.o; (try simp only [lA, lC, lN]); omega)).mono ?_
 rintro e z5 ⟨v5, rfl, hQ5, hK5⟩
 have HS5 : Hd (WS c w v v5 (bs ++ vTx d.v.b ++ [123, 32] ++ catN (k + 1) (fun i => tTx (tbG d.tb i))) d.cl z5) := (show WS _ _ _ _ _ _ _ by rw [HSU.o]; exact (HSr.o.below (bl_a _)).step hQ5 hK5)
 clear hQ5 hK5 HSr
 go_wp2
 go_roundw
 case rel => exact ⟨k + 1, v5, by omega, by go_num, HS5⟩
 case measure => simp [intOf]; omega
end Go.Proofs.YthljoojcpbignaaGreatDoor
