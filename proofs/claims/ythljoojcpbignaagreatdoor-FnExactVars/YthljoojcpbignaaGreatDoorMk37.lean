import Derived.Test.YthljoojcpbignaaGreatDoorMk36
namespace Go.Proofs.YthljoojcpbignaaGreatDoor
open Go.RowKit Go.Deep
set_option maxHeartbeats 40000000
set_option maxRecDepth 100000
def SayX (c : WC) (e : ET) : Prop := ∀ (v : Value) (bs : List Int) (W : World), WQ c W v bs → bs.length + 80 * esz e ≤ 900000 → Calls Tryz.prog 212 #[.pointer (some ⟨c.g, 0, none⟩), .agg #[.int .i64 e.d.k, .int .i64 e.d.op, .slice e.d.v.a e.d.v.len e.d.v.cap, .int .i64 e.d.t.t.k, .slice e.d.t.t.a e.d.t.t.len e.d.t.t.cap, .int .i64 e.d.t.t.n, .int .i64 e.d.t.t.s, .slice e.d.ka e.d.n e.d.kc]] W (PutQ c v (bs ++ eTx e) W)
theorem kids_any (c : WC) (a : Option Addr) (cap n : Nat) (kid : Nat → ET) (v : Value) (bs : List Int) (w : World) (h : WQ c w v bs) (hn2 : n ≤ 1048576) (hR : KRow 0 c.w0 8 a n (fun i => (kid i).d.cells)) (hL : ∀ i, i < n → (eTx (kid i)).length ≤ 80 * esz (kid i)) (hm : bs.length + 80 * sumN n (fun i => esz (kid i)) ≤ 900000) (IH : ∀ i, i < n → SayX c (kid i)) :
 Calls Tryz.prog 163 #[.pointer (some ⟨c.g, 0, none⟩), .slice a n cap] w (PutQ c v (bs ++ catN n (fun i => eTx (kid i))) w) := by
 have H0 := iH h
 have HR := iH hR
 have HI := iH IH
 have HLN : Hd (∀ k, k < n → (bs ++ catN k (fun i => eTx (kid i))).length + 80 * esz (kid k) ≤ 900000) := fun k hk => by
  rw [List.length_append]
  have h1 := catN_len (n := k) (f := (fun i => eTx (kid i))) (c := fun i => esz (kid i)) (m := 80) (fun i hi => hL i (by omega))
  have h3 := sumN_mono (f := fun i => esz (kid i)) (show k + 1 ≤ n by omega)
  have h4 : sumN (k + 1) (fun i => esz (kid i)) = sumN k (fun i => esz (kid i)) + esz (kid k) := rfl
  omega
 clear h hR IH hm hL
 go_in
 go_wp2_with fail
 go_loopw [8] (fun i wr => ∃ (k : Nat) (v' : Value), k ≤ n ∧ i = .int .i64 k ∧ Hd (WQ c wr v' (bs ++ catN k (fun i => eTx (kid i)))) ∧ Hd (KQ c.g v w v' wr)) (fun i _ => n - (intOf i).toNat)
 case atStart => exact ⟨0, v, nZ, rfl, (show Hd (WQ c _ v (bs ++ [])) by rw [List.append_nil]; exact H0), KQ.of_below brf⟩
 clear H0
 obtain ⟨k, v', hk, rfl, HQr, HKr⟩ := hrel
 by_cases hlk : k < n
 rotate_left
 · obtain rfl : k = n := by omega
   have hlkz : ¬ (k : Int) < (k : Int) := by omega
   go_wp2
   go_end0
   exact ⟨v', rfl, HQr.o, HKr.o⟩
 have hlkz : (k : Int) < (n : Int) := by omega
 obtain ⟨b, off, rfl, _, hlt, hck⟩ := HR.o.resolve_left (by omega)
 have hcx : wr.rangeAt b (off + k * 8) (kid k).d.cl := fun i u hu => (HQr.o.bl.cell (p := ⟨b, off + k * 8 + i, none⟩) hlt).trans (hck k hlk i u hu)
 have hlen := HLN.o k hlk
 have HIK := iH (HI.o k hlk)
 have HSU : Hd (bs ++ catN (k + 1) (fun i => eTx (kid i)) = (bs ++ catN k (fun i => eTx (kid i))) ++ eTx (kid k)) := (show bs ++ (catN k _ ++ eTx (kid k)) = _ by rw [List.append_assoc])
 generalize bs ++ catN k (fun i => eTx (kid i)) = us at *
 clear hck
 go_wp2_with (with_reducible refine wpl_at ?_; refine wpList_load_mid rfl 100 _ rfl _ _ rfl (kid k).d.cl _ hcx Tryz.underlying100 rfl (by kernel_rfl) ?_; try simp only [Act.put, sA, zA, cA])
 refine (HIK.o v' us _ (HQr.o.below (bl_a _)) hlen).mono ?_
 rintro e z5 ⟨v5, rfl, hQ5, hK5⟩
 have HQ5 : Hd (WQ c z5 v5 (bs ++ catN (k + 1) (fun i => eTx (kid i)))) := (show WQ _ _ _ _ by rw [HSU.o]; exact hQ5)
 have HK5 := iH (HKr.o.trans ((KQ.of_below (bl_a _)).trans hK5))
 clear hQ5 hK5 hcx HQr HKr
 go_wp2
 go_roundw
 case rel => exact ⟨k + 1, v5, by omega, by go_num, HQ5, HK5⟩
 case measure => simp [intOf]; omega
theorem wkids_any (c : WC) (d : EN) (kid : Nat → ET) (v : Value) (bs : List Int) (w : World) (h : WQ c w v bs) (hn2 : d.n ≤ 1048576) (hR : KRow 0 c.w0 8 d.ka d.n (fun i => (kid i).d.cells)) (hL : ∀ i, i < d.n → (eTx (kid i)).length ≤ 80 * esz (kid i)) (hm : bs.length + 80 * sumN d.n (fun i => esz (kid i)) ≤ 900000) (IH : ∀ i, i < d.n → SayX c (kid i)) :
 Calls Tryz.prog 162 #[.pointer (some ⟨c.g, 0, none⟩), .agg d.ar] w (PutQ c v (bs ++ catN d.n (fun i => eTx (kid i))) w) := by
 have HS0 := iH (WS.new h d.ar 100)
 have HKD := iH (fun W (hW : WQ c W v bs) => kids_any c d.ka d.kc d.n kid v bs W hW hn2 hR hL hm IH)
 clear h hR hL hm IH hn2
 go_in
 go_wp2_with fail
 refine (HKD.o _ HS0.o.wq).mono ?_
 rintro e z1 ⟨v1, rfl, hQ1, hK1⟩
 have HS1 := iH (HS0.o.step hQ1 hK1)
 clear hQ1 hK1 HS0
 go_wp2
 go_end0
 exact HS1.o.put
theorem wbound_any (c : WC) (d : EN) (v : Value) (bs : List Int) (w : World) (h : WQ c w v bs) (hv : BsF 0 c.w0 d.v) (hk : nameOk d.v.b = true) (hm : bs.length ≤ 900000) :
 Calls Tryz.prog 167 #[.pointer (some ⟨c.g, 0, none⟩), .agg d.ar] w (PutQ c v (bs ++ vTx d.v.b) w) := by
 have HS0 := iH (WS.new h d.ar 100)
 have HV := iH hv
 clear h hv
 go_in
 go_wp2_with fail
 refine (variable_any c d.v v bs _ HS0.o.wq HV.o hk (by omega)).mono ?_
 rintro e z1 ⟨v1, rfl, hQ1, hK1⟩
 have HS1 := iH (HS0.o.step hQ1 hK1)
 clear hQ1 hK1 HS0
 go_wp2
 go_end0
 exact HS1.o.put
theorem coal_any (c : WC) (d : EN) (kid : Nat → ET) (v : Value) (bs : List Int) (w : World) (h : WQ c w v bs) (hn2 : d.n ≤ 1048576) (hR : KRow 0 c.w0 8 d.ka d.n (fun i => (kid i).d.cells)) (hL : ∀ i, i < d.n → (eTx (kid i)).length ≤ 80 * esz (kid i)) (hm : bs.length + 2 + 80 * sumN d.n (fun i => esz (kid i)) ≤ 900000) (IH : ∀ i, i < d.n → SayX c (kid i)) :
 Calls Tryz.prog 169 #[.pointer (some ⟨c.g, 0, none⟩), .agg d.ar] w (PutQ c v (bs ++ [123, 32] ++ catN d.n (fun i => eTx (kid i)) ++ [125, 32]) w) := by
 have HS0 := iH (WS.new h d.ar 100)
 have HKD := iH (fun W v1 (hW : WQ c W v1 _) => kids_any c d.ka d.kc d.n kid v1 (bs ++ [123, 32]) W hW hn2 hR hL (by simp only [lA, lC, lN]; omega) IH)
 have HLN : Hd (bs.length + (catN d.n (fun i => eTx (kid i))).length ≤ 900000) := (show _ ≤ _ by have h1 := catN_len (n := d.n) (f := (fun i => eTx (kid i))) (c := fun i => esz (kid i)) (m := 80) hL; omega)
 clear h hR hL hm IH hn2
 generalize catN d.n (fun i => eTx (kid i)) = cc at *
 go_in
 go_upto_region 1 with fail
 generalize (w.alloc (.cells d.ar 100)) = W1 at *
 go_wp2_with fail
 refine (put1 c ⟨#[123]⟩ v (bs) _ HS0.o.wq (by decide) (by have hl := HLN.o; rw [show (ByteArray.mk #[123]).size = 1 from rfl]; (try simp only [lA, lC, lN]); omega)).mono ?_
 rintro e z1 ⟨v1, rfl, hQ1, hK1⟩
 have HS1 : Hd (WS c w v v1 (bs ++ [123, 32]) d.cl z1) := HS0.o.step hQ1 hK1
 clear hQ1 hK1 HS0
 have y7 := HS1.o.bx.2 7 _ rfl
 go_wp2_with fail
 refine (HKD.o _ v1 HS1.o.wq).mono ?_
 rintro e z2 ⟨v2, rfl, hQ2, hK2⟩
 have HS2 := iH (HS1.o.step hQ2 hK2)
 clear hQ2 hK2 HS1
 clear y7
 go_wp2_with fail
 refine (put1 c ⟨#[125]⟩ v2 _ _ HS2.o.wq (by decide) (by have hl := HLN.o; rw [show (ByteArray.mk #[125]).size = 1 from rfl]; (try simp only [lA, lC, lN]); omega)).mono ?_
 rintro e z3 ⟨v3, rfl, hQ3, hK3⟩
 have HS3 : Hd (WS c w v v3 (bs ++ [123, 32] ++ cc ++ [125, 32]) d.cl z3) := HS2.o.step hQ3 hK3
 clear hQ3 hK3 HS2
 go_wp2
 go_end0
 exact HS3.o.put
theorem numsOf_op {n : Int} (h0 : 0 ≤ n) (h1 : n ≤ 7) {st : ByteArray} (h : ∀ k : Nat, n = (k : Int) → st = (ByteArray.mk #[43, 45, 42, 47, 60, 61, 38, 124]).extract k (k + 1)) : numsOf st ++ [32] = [opB n, 32] ∧ st.size = 1 := by
 rcases (by omega : n = 0 ∨ n = 1 ∨ n = 2 ∨ n = 3 ∨ n = 4 ∨ n = 5 ∨ n = 6 ∨ n = 7) with rfl | rfl | rfl | rfl | rfl | rfl | rfl | rfl
 · rw [h 0 rfl]; exact ⟨by decide, by decide⟩
 · rw [h 1 rfl]; exact ⟨by decide, by decide⟩
 · rw [h 2 rfl]; exact ⟨by decide, by decide⟩
 · rw [h 3 rfl]; exact ⟨by decide, by decide⟩
 · rw [h 4 rfl]; exact ⟨by decide, by decide⟩
 · rw [h 5 rfl]; exact ⟨by decide, by decide⟩
 · rw [h 6 rfl]; exact ⟨by decide, by decide⟩
 rw [h 7 rfl]; exact ⟨by decide, by decide⟩
theorem operation_any (c : WC) (d : EN) (kid : Nat → ET) (v : Value) (bs : List Int) (w : World) (h : WQ c w v bs) (hR : KRow 0 c.w0 8 d.ka d.n (fun i => (kid i).d.cells)) (hd : d.n = 2) (hop : 0 ≤ d.op ∧ d.op ≤ 7) (hL : ∀ i, i < d.n → (eTx (kid i)).length ≤ 80 * esz (kid i)) (hm : bs.length + 4 + 80 * sumN d.n (fun i => esz (kid i)) ≤ 900000) (IH : ∀ i, i < d.n → SayX c (kid i)) :
 Calls Tryz.prog 165 #[.pointer (some ⟨c.g, 0, none⟩), .agg d.ar] w (PutQ c v (bs ++ eTx (kid 0) ++ [opB d.op, 32] ++ eTx (kid 1) ++ [41, 32]) w) := by
 obtain ⟨b, off, eK, _, hbk, hck⟩ := hR.resolve_left (by omega)
 have HS0 := iH (WS.new h d.ar 100)
 have HEK := iH eK
 have HRG : Hd (∀ k, k < d.n → ∀ W, Below c.w0.heap.size c.w0 W → W.rangeAt b (off + k * 8) (kid k).d.cl) := fun k hk W hb i u hu => (hb.cell (p := ⟨b, off + k * 8 + i, none⟩) hbk).trans (hck k hk i u hu)
 have HI := iH IH
 have HD := iH hd
 have HOP := iH hop
 have o0 := hop.1
 have o7 := hop.2
 have HLN : Hd (bs.length + 4 + 80 * (esz (kid 0) + esz (kid 1)) ≤ 900000 ∧ (eTx (kid 0)).length ≤ 80 * esz (kid 0) ∧ (eTx (kid 1)).length ≤ 80 * esz (kid 1)) := ⟨(show _ ≤ _ by have h2 : sumN 2 (fun i => esz (kid i)) = esz (kid 0) + esz (kid 1) := (by simp [sumN]); rw [hd] at hm; omega), hL 0 (by omega), hL 1 (by omega)⟩
 have hb0z : (0 : Int) < (d.n : Int) := by omega
 have hb1z : (1 : Int) < (d.n : Int) := by omega
 clear h hR hL hm IH eK hck hd hop
 go_in
 go_upto_region 1 with fail
 generalize (w.alloc (.cells d.ar 100)) = W1 at *
 have y7 := HS0.o.bx.2 7 _ rfl
 rw [HEK.o] at y7
 have hcx := HRG.o 0 (by have := HD.o; omega) _ HS0.o.wq.bl
 go_wp2_with (with_reducible refine wpl_at ?_; refine wpList_load_mid rfl 100 _ rfl _ _ rfl (kid 0).d.cl _ (by simpa using hcx) Tryz.underlying100 rfl (by kernel_rfl) ?_; try simp only [Act.put, sA, zA, cA])
 refine (HI.o 0 (by have := HD.o; omega) v bs _ HS0.o.wq (by have := HLN.o; omega)).mono ?_
 rintro e z1 ⟨v1, rfl, hQ1, hK1⟩
 have HS1 := iH (HS0.o.step hQ1 hK1)
 clear hQ1 hK1 HS0
 clear y7 hcx
 have y1 := HS1.o.bx.2 1 _ rfl
 go_wp2_with fail
 have HO1 := numsOf_op (n := d.op) HOP.o.1 HOP.o.2 (st := (ByteArray.mk #[43, 45, 42, 47, 60, 61, 38, 124]).extract d.op.toNat (d.op + 1).toNat) (fun k hk => by rw [hk]; rfl)
 generalize (ByteArray.mk #[43, 45, 42, 47, 60, 61, 38, 124]).extract d.op.toNat (d.op + 1).toNat = st at *
 have HST := iH HO1
 clear HO1 y1
 refine (put1 c st v1 _ _ HS1.o.wq (by rw [HST.o.2]; decide) (by have hl := HLN.o; rw [HST.o.2, List.length_append]; omega)).mono ?_
 rintro e z2 ⟨v2, rfl, hQ2, hK2⟩
 have HS2 : Hd (WS c w v v2 (bs ++ eTx (kid 0) ++ [opB d.op, 32]) d.cl z2) := (show WS _ _ _ _ _ _ _ by rw [← HST.o.1]; exact HS1.o.step hQ2 hK2)
 clear hQ2 hK2 HS1
 have y7 := HS2.o.bx.2 7 _ rfl
 rw [HEK.o] at y7
 have hcx := HRG.o 1 (by have := HD.o; omega) _ HS2.o.wq.bl
 go_wp2_with (with_reducible refine wpl_at ?_; refine wpList_load_mid rfl 100 _ rfl _ _ rfl (kid 1).d.cl _ (by simpa using hcx) Tryz.underlying100 rfl (by kernel_rfl) ?_; try simp only [Act.put, sA, zA, cA])
 refine (HI.o 1 (by have := HD.o; omega) v2 _ _ HS2.o.wq (by have := HLN.o; simp only [lA, lC, lN]; omega)).mono ?_
 rintro e z3 ⟨v3, rfl, hQ3, hK3⟩
 have HS3 := iH (HS2.o.step hQ3 hK3)
 clear hQ3 hK3 HS2
 clear y7 hcx
 go_wp2_with fail
 refine (put1 c ⟨#[41]⟩ v3 _ _ HS3.o.wq (by decide) (by have hl := HLN.o; rw [show (ByteArray.mk #[41]).size = 1 from rfl]; (try simp only [lA, lC, lN]); omega)).mono ?_
 rintro e z4 ⟨v4, rfl, hQ4, hK4⟩
 have HS4 : Hd (WS c w v v4 (bs ++ eTx (kid 0) ++ [opB d.op, 32] ++ eTx (kid 1) ++ [41, 32]) d.cl z4) := HS3.o.step hQ4 hK4
 clear hQ4 hK4 HS3
 go_wp2
 go_end0
 exact HS4.o.put
def xWord (k : Nat) : ByteArray := if k = 0 then ⟨#[40]⟩ else if k = 1 then ⟨#[78, 79, 84]⟩ else if k = 2 then ⟨#[66, 79, 85, 78, 68]⟩ else if k = 3 then ⟨#[73, 70]⟩ else if k = 4 then ⟨#[67, 79, 65, 76]⟩ else ⟨#[76, 69, 78]⟩
def xRd (k : Nat) : Nat := if k = 0 then 164 else if k = 1 then 159 else if k = 2 then 166 else if k = 3 then 161 else if k = 4 then 168 else 159
def xFn (k : Nat) : Nat := if k = 0 then 165 else if k = 1 then 162 else if k = 2 then 167 else if k = 3 then 162 else if k = 4 then 169 else 162
def xCells (k : Nat) : List Value := [.string (xWord k), .int .i64 ((k : Int) + 2), .func (.func (xRd k)) #[] #[], .func (.func (xFn k)) #[] #[]]
theorem call_enter {P : Program} {f : Nat} {fn : Func} {c : Go.Code} (hf : P.funcs[f]? = some fn) (hname : (fn.name == "runtime.NumGoroutine") = false) (hb : fn.body = some c) (args : Array Value) (w : World) : (callFunc f args).run P w = .ok (.enter f args) w := by
 have h1 : fn.name ≠ "runtime.NumGoroutine" := by simpa using hname
 simp [callFunc, hf, h1, hb]
theorem xFn_call (k : Nat) (args : Array Value) (w : World) : (callFunc (xFn k) args).run Tryz.prog w = .ok (.enter (xFn k) args) w := by
 unfold xFn
 split
 · exact call_enter Tryz.func165 (by kernel_rfl) rfl args w
 split
 · exact call_enter Tryz.func162 (by kernel_rfl) rfl args w
 split
 · exact call_enter Tryz.func167 (by kernel_rfl) rfl args w
 split
 · exact call_enter Tryz.func162 (by kernel_rfl) rfl args w
 split
 · exact call_enter Tryz.func169 (by kernel_rfl) rfl args w
 exact call_enter Tryz.func162 (by kernel_rfl) rfl args w
theorem xWord_len (k : Nat) : 0 < (xWord k).size ∧ (xWord k).size ≤ 5 := by
 unfold xWord
 repeat' split
 all_goals exact ⟨by decide, by decide⟩
theorem rule_one (st : ByteArray) (kk : Int) (rd wf : Nat) : ((rA st kk rd wf) : Array Value).all (·.oneCell') = true := all_oneCell_toArray (cs := (rL st kk rd wf)) (by intro v hv; simp only [List.mem_cons, List.not_mem_nil, or_false] at hv; rcases hv with rfl | rfl | rfl | rfl <;> rfl)
def XRules (c : WC) (r2 : Nat) : Prop := c.G[1]? = some (.slice (some ⟨r2, 0, none⟩) 6 6) ∧ ∀ k, k < 6 → ∀ i u, (xCells k)[i]? = some u → c.RT ⟨r2, k * 4 + i, none⟩ u
def XWrites (c : WC) (d : EN) (kid : Nat → ET) : Prop := ∀ k : Nat, k < 6 → (k : Int) + 2 = d.k → ∃ R, (numsOf (xWord k) ++ [32]) ++ R = eTx (.mk d kid) ∧ ∀ (v : Value) (bs : List Int) (W : World), WQ c W v bs → bs.length + 10 + 80 * sumN d.n (fun i => esz (kid i)) ≤ 900000 → Calls Tryz.prog (xFn k) #[.pointer (some ⟨c.g, 0, none⟩), .agg #[.int .i64 d.k, .int .i64 d.op, .slice d.v.a d.v.len d.v.cap, .int .i64 d.t.t.k, .slice d.t.t.a d.t.t.len d.t.t.cap, .int .i64 d.t.t.n, .int .i64 d.t.t.s, .slice d.ka d.n d.kc]] W (PutQ c v (bs ++ R) W)
theorem expr_of (c : WC) (d : EN) (kid : Nat → ET) (r2 : Nat) (v : Value) (bs : List Int) (w : World) (h : WQ c w v bs) (ht : Tab c.w0) (hX : XRules c r2) (hl : (ET.mk d kid).lies 0 c.w0) {lim deep : Int} (hok : eOk lim (.mk d kid) deep) (hn : bs.length + 80 * esz (.mk d kid) ≤ 900000) (HW : XWrites c d kid) :
 Calls Tryz.prog 212 #[.pointer (some ⟨c.g, 0, none⟩), .agg d.ar] w (PutQ c v (bs ++ eTx (.mk d kid)) w) := by
 try unfold EN.ar
 obtain ⟨hv, htm, hf, hn2, hR, hk⟩ := hl
 obtain ⟨hdp, ⟨hko, hvo, _, hto, _, hop, _⟩, hkid⟩ := hok
 have HKB : Hd (0 ≤ d.k ∧ d.k ≤ 7) := (show _ ∧ _ by unfold kOk at hko; omega)
 have hsz : esz (.mk d kid) = 1 + sumN d.n (fun i => esz (kid i)) := rfl
 have HLB : Hd (bs.length + 80 + 80 * sumN d.n (fun i => esz (kid i)) ≤ 900000) := (show _ ≤ _ by omega)
 have HS0 := iH (WS.new h d.ar 100)
 have HG := iH hX.1
 have HRX := iH hX.2
 have HWX := iH HW
 have HV : Hd (BsF 0 c.w0 d.v ∧ (BsF 0 c.w0 d.t.sl ∧ d.t.t.fits) ∧ Tab c.w0) := ⟨hv, ⟨htm, hf⟩, ht⟩
 have HVO := iH hvo
 have HTO := iH hto
 have HE0 : Hd (d.k = 0 → eTx (.mk d kid) = vTx d.v.b) := fun h0 => by rw [eTx_mk, if_pos h0]
 have HE1 : Hd (d.k = 1 → eTx (.mk d kid) = tTx d.t) := fun h0 => by rw [eTx_mk, if_neg (by omega), if_pos h0]
 obtain ⟨R, hRR⟩ : ∃ R, R = bs ++ eTx (.mk d kid) := ⟨_, rfl⟩
 have HRE := iH hRR
 rw [← hRR]
 clear h ht hX hv htm hf hn2 hR hk hdp hko hvo hto hop hkid hsz hn HW hRR
 go_in
 go_upto_region 1 with fail
 generalize (w.alloc (.cells d.ar 100)) = W1 at *
 have x0 := HS0.o.bx.2 0 _ rfl
 by_cases h0 : d.k = 0
 · have x2 := HS0.o.bx.2 2 _ rfl
   have k0 : (d.k == 0) = true := by simp [h0]
   have k1 : (d.k == 1) = false := by simp [h0]
   have HNM := iH (HVO.o (.inl h0))
   have HRV : Hd (bs ++ vTx d.v.b = R) := (show _ = _ by rw [HRE.o, HE0.o h0])
   have HK0 := iH h0
   clear h0
   go_wp2_with fail
   refine (variable_any c d.v v bs _ HS0.o.wq HV.o.1 HNM.o (by have := HLB.o; omega)).mono ?_
   rintro e z1 ⟨v1, rfl, hQ1, hK1⟩
   have HS1 : Hd (WS c w v v1 (R) d.cl z1) := (show WS _ _ _ _ _ _ _ by rw [← HRV.o]; exact HS0.o.step hQ1 hK1)
   clear hQ1 hK1 HS0 x0 x2
   have g1 := HS1.o.wq.gr 1 _ (by omega) HG.o
   go_wp2_with fail
   clear g1
   go_loopw [26] (fun i wr => ∃ (k : Nat) (v' : Value), k ≤ 6 ∧ i = .int .i64 k ∧ Hd (WS c w v v' ((if d.k < (k : Int) + 2 then R else bs)) [.int .i64 d.k, .int .i64 d.op, .slice d.v.a d.v.len d.v.cap, .int .i64 d.t.t.k, .slice d.t.t.a d.t.t.len d.t.t.cap, .int .i64 d.t.t.n, .int .i64 d.t.t.s, .slice d.ka d.n d.kc] wr)) (fun i _ => 6 - (intOf i).toNat)
   case atStart => exact ⟨0, v1, nZ, rfl, (show Hd (WS _ _ _ _ _ _ _) by rw [if_pos (show d.k < ((0 : Nat) : Int) + 2 by have := HK0.o; omega)]; exact HS1)⟩
   clear HS1
   obtain ⟨k, v', hk, rfl, HSr⟩ := hrel
   by_cases hlk : k < 6
   rotate_left
   · obtain rfl : k = 6 := by omega
     have HSE := iH (show WS _ _ _ _ _ _ _ by have h1 := HSr.o; rw [if_pos (show d.k < ((6 : Nat) : Int) + 2 by have := HKB.o; omega)] at h1; exact h1)
     clear HSr
     go_wp2
     go_end0
     exact HSE.o.put
   have hlkz : (k : Int) < 6 := by omega
   obtain ⟨st, hst⟩ : ∃ st, st = xWord k := ⟨_, rfl⟩
   obtain ⟨kk, hkk⟩ : ∃ kk : Int, kk = (k : Int) + 2 := ⟨_, rfl⟩
   obtain ⟨rd, hrd⟩ : ∃ rd, rd = xRd k := ⟨_, rfl⟩
   obtain ⟨wf, hwf⟩ : ∃ wf, wf = xFn k := ⟨_, rfl⟩
   have hcx : wr.rangeAt r2 (k * 4) (rL st kk rd wf) := fun i u hu => (HSr.o.wq.rt ⟨r2, k * 4 + i, none⟩ u (HRX.o k hlk i u (by rw [← hu, hst, hkk, hrd, hwf]; rfl))).2.2
   have HKQ := iH hkk
   have HWF : Hd (wf = xFn k ∧ st = xWord k) := ⟨hwf, hst⟩
   clear hst hkk hrd hwf
   have hth := (OB.new wr #[.string ⟨#[]⟩, .int .i64 0, .nilFunc, .nilFunc] 213).there 0 4 (by simp)
   have one1 := rule_one st kk rd wf
   have HBk : Hd (Bl wr ((wr.alloc (.cells #[.string ⟨#[]⟩, .int .i64 0, .nilFunc, .nilFunc] 213)).setCells wr.heap.size 0 (rL st kk rd wf))) := below_sets _ nR _ _ _ (bl_a _)
   have HS5 := iH (HSr.o.below HBk.o)
   have HI5 : Hd (WS c wr v' v' (if d.k < (k : Int) + 2 then R else bs) (rL st kk rd wf) ((wr.alloc (.cells #[.string ⟨#[]⟩, .int .i64 0, .nilFunc, .nilFunc] 213)).setCells wr.heap.size 0 (rL st kk rd wf))) := ⟨HSr.o.wq.below HBk.o, KQ.of_below HBk.o, ((OB.new wr #[.string ⟨#[]⟩, .int .i64 0, .nilFunc, .nilFunc] 213).put (rL st kk rd wf) 0 (rL st kk rd wf) (show 0 + 4 ≤ 4 by omega) rfl).box, fun e => by have := (HSr.o.wq.own.2 _ e).2; omega, HSr.o.wq.lt⟩
   go_wp2_with (first | (with_reducible refine wpq_at ?_; refine wpList_load_mid rfl 213 _ rfl r2 (k * 4) rfl (rL st kk rd wf) _ hcx Tryz.underlying213 rfl (by kernel_rfl) ?_; try simp only [Act.put, sA, zA, cA]) | (with_reducible refine wpq_at ?_; refine store_stop 213 (.tmp 5) (.tmp 29) rfl ?_))
   change wpList _ _ _ _ _ _
   refine wpList_store_mid rfl 213 _ _ rfl wr.heap.size 0 (rA st kk rd wf) rfl rfl hth (by kernel_rfl) one1 ?_
   try simp only [Act.put]
   generalize ((wr.alloc (.cells #[.string ⟨#[]⟩, .int .i64 0, .nilFunc, .nilFunc] 213)).setCells wr.heap.size 0 (rL st kk rd wf)) = W5 at *
   clear hcx hth one1 HBk HSr
   have y0 := HS5.o.bx.2 0 _ rfl
   have y1 := HI5.o.bx.2 1 _ rfl
   by_cases hj : kk = d.k
   · exfalso
     have h1 := HKQ.o
     have h2 := HK0.o
     omega
   have kq : (kk == d.k) = false := by simp [hj]
   have HS7 : Hd (WS c w v v' ((if d.k < ((k + 1 : Nat) : Int) + 2 then R else bs)) d.cl W5) := (show WS _ _ _ _ _ _ _ by
    have h1 := HS5.o
    have h2 := HKQ.o
    by_cases h3 : d.k < (k : Int) + 2
    · rw [if_pos h3] at h1
      rw [if_pos (by omega)]
      exact h1
    rw [if_neg h3] at h1
    rw [if_neg (by omega)]
    exact h1)
   clear HS5 HI5 hj
   go_wp2
   go_roundw
   case rel => exact ⟨k + 1, v', by omega, by go_num, HS7⟩
   case measure => simp [intOf]; omega
 by_cases h1 : d.k = 1
 · have lp := HS0.o.bx.range 3 [.int .i64 d.t.t.k, .slice d.t.t.a d.t.t.len d.t.t.cap, .int .i64 d.t.t.n, .int .i64 d.t.t.s] rfl
   have k0 : (d.k == 0) = false := by simp [h0]
   have k1 : (d.k == 1) = true := by simp [h1]
   have HNM := iH (HTO.o h1)
   have HRV : Hd (bs ++ tTx d.t = R) := (show _ = _ by rw [HRE.o, HE1.o h1])
   have HK0 := iH h1
   clear h0 h1
   go_wp2_with (with_reducible refine wpq_at ?_; refine ldr rfl rfl rfl Tryz.underlying93 lp rfl ?_; try simp only [Act.put, sA, zA, cA])
   refine (term_any c d.t v bs _ HS0.o.wq HV.o.2.2 HV.o.2.1 HNM.o (by have := HLB.o; omega)).mono ?_
   rintro e z1 ⟨v1, rfl, hQ1, hK1⟩
   have HS1 : Hd (WS c w v v1 (R) d.cl z1) := (show WS _ _ _ _ _ _ _ by rw [← HRV.o]; exact HS0.o.step hQ1 hK1)
   clear hQ1 hK1 HS0 x0 lp
   have g1 := HS1.o.wq.gr 1 _ (by omega) HG.o
   go_wp2_with fail
   clear g1
   go_loopw [26] (fun i wr => ∃ (k : Nat) (v' : Value), k ≤ 6 ∧ i = .int .i64 k ∧ Hd (WS c w v v' ((if d.k < (k : Int) + 2 then R else bs)) [.int .i64 d.k, .int .i64 d.op, .slice d.v.a d.v.len d.v.cap, .int .i64 d.t.t.k, .slice d.t.t.a d.t.t.len d.t.t.cap, .int .i64 d.t.t.n, .int .i64 d.t.t.s, .slice d.ka d.n d.kc] wr)) (fun i _ => 6 - (intOf i).toNat)
   case atStart => exact ⟨0, v1, nZ, rfl, (show Hd (WS _ _ _ _ _ _ _) by rw [if_pos (show d.k < ((0 : Nat) : Int) + 2 by have := HK0.o; omega)]; exact HS1)⟩
   clear HS1
   obtain ⟨k, v', hk, rfl, HSr⟩ := hrel
   by_cases hlk : k < 6
   rotate_left
   · obtain rfl : k = 6 := by omega
     have HSE := iH (show WS _ _ _ _ _ _ _ by have h1 := HSr.o; rw [if_pos (show d.k < ((6 : Nat) : Int) + 2 by have := HKB.o; omega)] at h1; exact h1)
     clear HSr
     go_wp2
     go_end0
     exact HSE.o.put
   have hlkz : (k : Int) < 6 := by omega
   obtain ⟨st, hst⟩ : ∃ st, st = xWord k := ⟨_, rfl⟩
   obtain ⟨kk, hkk⟩ : ∃ kk : Int, kk = (k : Int) + 2 := ⟨_, rfl⟩
   obtain ⟨rd, hrd⟩ : ∃ rd, rd = xRd k := ⟨_, rfl⟩
   obtain ⟨wf, hwf⟩ : ∃ wf, wf = xFn k := ⟨_, rfl⟩
   have hcx : wr.rangeAt r2 (k * 4) (rL st kk rd wf) := fun i u hu => (HSr.o.wq.rt ⟨r2, k * 4 + i, none⟩ u (HRX.o k hlk i u (by rw [← hu, hst, hkk, hrd, hwf]; rfl))).2.2
   have HKQ := iH hkk
   have HWF : Hd (wf = xFn k ∧ st = xWord k) := ⟨hwf, hst⟩
   clear hst hkk hrd hwf
   have hth := (OB.new wr #[.string ⟨#[]⟩, .int .i64 0, .nilFunc, .nilFunc] 213).there 0 4 (by simp)
   have one1 := rule_one st kk rd wf
   have HBk : Hd (Bl wr ((wr.alloc (.cells #[.string ⟨#[]⟩, .int .i64 0, .nilFunc, .nilFunc] 213)).setCells wr.heap.size 0 (rL st kk rd wf))) := below_sets _ nR _ _ _ (bl_a _)
   have HS5 := iH (HSr.o.below HBk.o)
   have HI5 : Hd (WS c wr v' v' (if d.k < (k : Int) + 2 then R else bs) (rL st kk rd wf) ((wr.alloc (.cells #[.string ⟨#[]⟩, .int .i64 0, .nilFunc, .nilFunc] 213)).setCells wr.heap.size 0 (rL st kk rd wf))) := ⟨HSr.o.wq.below HBk.o, KQ.of_below HBk.o, ((OB.new wr #[.string ⟨#[]⟩, .int .i64 0, .nilFunc, .nilFunc] 213).put (rL st kk rd wf) 0 (rL st kk rd wf) (show 0 + 4 ≤ 4 by omega) rfl).box, fun e => by have := (HSr.o.wq.own.2 _ e).2; omega, HSr.o.wq.lt⟩
   go_wp2_with (first | (with_reducible refine wpq_at ?_; refine wpList_load_mid rfl 213 _ rfl r2 (k * 4) rfl (rL st kk rd wf) _ hcx Tryz.underlying213 rfl (by kernel_rfl) ?_; try simp only [Act.put, sA, zA, cA]) | (with_reducible refine wpq_at ?_; refine store_stop 213 (.tmp 5) (.tmp 29) rfl ?_))
   change wpList _ _ _ _ _ _
   refine wpList_store_mid rfl 213 _ _ rfl wr.heap.size 0 (rA st kk rd wf) rfl rfl hth (by kernel_rfl) one1 ?_
   try simp only [Act.put]
   generalize ((wr.alloc (.cells #[.string ⟨#[]⟩, .int .i64 0, .nilFunc, .nilFunc] 213)).setCells wr.heap.size 0 (rL st kk rd wf)) = W5 at *
   clear hcx hth one1 HBk HSr
   have y0 := HS5.o.bx.2 0 _ rfl
   have y1 := HI5.o.bx.2 1 _ rfl
   by_cases hj : kk = d.k
   · exfalso
     have h1 := HKQ.o
     have h2 := HK0.o
     omega
   have kq : (kk == d.k) = false := by simp [hj]
   have HS7 : Hd (WS c w v v' ((if d.k < ((k + 1 : Nat) : Int) + 2 then R else bs)) d.cl W5) := (show WS _ _ _ _ _ _ _ by
    have h1 := HS5.o
    have h2 := HKQ.o
    by_cases h3 : d.k < (k : Int) + 2
    · rw [if_pos h3] at h1
      rw [if_pos (by omega)]
      exact h1
    rw [if_neg h3] at h1
    rw [if_neg (by omega)]
    exact h1)
   clear HS5 HI5 hj
   go_wp2
   go_roundw
   case rel => exact ⟨k + 1, v', by omega, by go_num, HS7⟩
   case measure => simp [intOf]; omega
 have k0 : (d.k == 0) = false := by simp [h0]
 have k1 : (d.k == 1) = false := by simp [h1]
 have HK0 : Hd (2 ≤ d.k) := (show _ ≤ _ by have := HKB.o; omega)
 clear h0 h1
 have g1 := HS0.o.wq.gr 1 _ (by omega) HG.o
 go_wp2_with fail
 clear g1
 go_loopw [26] (fun i wr => ∃ (k : Nat) (v' : Value), k ≤ 6 ∧ i = .int .i64 k ∧ Hd (WS c w v v' ((if d.k < (k : Int) + 2 then R else bs)) [.int .i64 d.k, .int .i64 d.op, .slice d.v.a d.v.len d.v.cap, .int .i64 d.t.t.k, .slice d.t.t.a d.t.t.len d.t.t.cap, .int .i64 d.t.t.n, .int .i64 d.t.t.s, .slice d.ka d.n d.kc] wr)) (fun i _ => 6 - (intOf i).toNat)
 case atStart => exact ⟨0, v, nZ, rfl, (show Hd (WS _ _ _ _ _ _ _) by rw [if_neg (show ¬ d.k < ((0 : Nat) : Int) + 2 by have := HK0.o; omega)]; exact HS0)⟩
 clear HS0
 obtain ⟨k, v', hk, rfl, HSr⟩ := hrel
 by_cases hlk : k < 6
 rotate_left
 · obtain rfl : k = 6 := by omega
   have HSE := iH (show WS _ _ _ _ _ _ _ by have h1 := HSr.o; rw [if_pos (show d.k < ((6 : Nat) : Int) + 2 by have := HKB.o; omega)] at h1; exact h1)
   clear HSr
   go_wp2
   go_end0
   exact HSE.o.put
 have hlkz : (k : Int) < 6 := by omega
 obtain ⟨st, hst⟩ : ∃ st, st = xWord k := ⟨_, rfl⟩
 obtain ⟨kk, hkk⟩ : ∃ kk : Int, kk = (k : Int) + 2 := ⟨_, rfl⟩
 obtain ⟨rd, hrd⟩ : ∃ rd, rd = xRd k := ⟨_, rfl⟩
 obtain ⟨wf, hwf⟩ : ∃ wf, wf = xFn k := ⟨_, rfl⟩
 have hcx : wr.rangeAt r2 (k * 4) (rL st kk rd wf) := fun i u hu => (HSr.o.wq.rt ⟨r2, k * 4 + i, none⟩ u (HRX.o k hlk i u (by rw [← hu, hst, hkk, hrd, hwf]; rfl))).2.2
 have HKQ := iH hkk
 have HWF : Hd (wf = xFn k ∧ st = xWord k) := ⟨hwf, hst⟩
 clear hst hkk hrd hwf
 have hth := (OB.new wr #[.string ⟨#[]⟩, .int .i64 0, .nilFunc, .nilFunc] 213).there 0 4 (by simp)
 have one1 := rule_one st kk rd wf
 have HBk : Hd (Bl wr ((wr.alloc (.cells #[.string ⟨#[]⟩, .int .i64 0, .nilFunc, .nilFunc] 213)).setCells wr.heap.size 0 (rL st kk rd wf))) := below_sets _ nR _ _ _ (bl_a _)
 have HS5 := iH (HSr.o.below HBk.o)
 have HI5 : Hd (WS c wr v' v' (if d.k < (k : Int) + 2 then R else bs) (rL st kk rd wf) ((wr.alloc (.cells #[.string ⟨#[]⟩, .int .i64 0, .nilFunc, .nilFunc] 213)).setCells wr.heap.size 0 (rL st kk rd wf))) := ⟨HSr.o.wq.below HBk.o, KQ.of_below HBk.o, ((OB.new wr #[.string ⟨#[]⟩, .int .i64 0, .nilFunc, .nilFunc] 213).put (rL st kk rd wf) 0 (rL st kk rd wf) (show 0 + 4 ≤ 4 by omega) rfl).box, fun e => by have := (HSr.o.wq.own.2 _ e).2; omega, HSr.o.wq.lt⟩
 go_wp2_with (first | (with_reducible refine wpq_at ?_; refine wpList_load_mid rfl 213 _ rfl r2 (k * 4) rfl (rL st kk rd wf) _ hcx Tryz.underlying213 rfl (by kernel_rfl) ?_; try simp only [Act.put, sA, zA, cA]) | (with_reducible refine wpq_at ?_; refine store_stop 213 (.tmp 5) (.tmp 29) rfl ?_))
 change wpList _ _ _ _ _ _
 refine wpList_store_mid rfl 213 _ _ rfl wr.heap.size 0 (rA st kk rd wf) rfl rfl hth (by kernel_rfl) one1 ?_
 try simp only [Act.put]
 generalize ((wr.alloc (.cells #[.string ⟨#[]⟩, .int .i64 0, .nilFunc, .nilFunc] 213)).setCells wr.heap.size 0 (rL st kk rd wf)) = W5 at *
 clear hcx hth one1 HBk HSr
 have y0 := HS5.o.bx.2 0 _ rfl
 have y1 := HI5.o.bx.2 1 _ rfl
 by_cases hj : kk = d.k
 · have kq : (kk == d.k) = true := by simp [hj]
   have HJ : Hd ((k : Int) + 2 = d.k) := (show _ = _ by rw [← HKQ.o]; exact hj)
   have ej : (if d.k < (k : Int) + 2 then R else bs) = bs := if_neg (by have := HJ.o; omega)
   rw [ej] at HS5 HI5
   obtain ⟨R1, hR1, hW1⟩ := HWX.o k hlk HJ.o
   rw [← HWF.o.1] at hW1
   rw [← HWF.o.2] at hR1
   have HW1 := iH hW1
   have HR1 : Hd (bs ++ (numsOf st ++ [32]) ++ R1 = R) := (show _ = _ by rw [HRE.o, ← hR1]; simp)
   have HST : Hd (0 < st.size ∧ st.size ≤ 5) := (show _ ∧ _ by rw [HWF.o.2]; exact xWord_len k)
   clear ej hR1 hW1 hj
   have ys := HI5.o.bx.2 0 _ rfl
   go_wp2_with fail
   clear y0 y1 ys
   refine (put1 c st v' bs _ HI5.o.wq HST.o.1 (by have := HLB.o; have := HST.o.2; omega)).mono ?_
   rintro e z6 ⟨v6, rfl, hQ6, hK6⟩
   have HS6 := iH (HS5.o.step hQ6 hK6)
   have HI6 := iH (HI5.o.step hQ6 hK6)
   clear hQ6 hK6 HS5 HI5
   have y3 := HI6.o.bx.2 3 _ rfl
   have ld := HS6.o.bx.range 0 d.cl rfl
   have cf : (callFunc wf #[.pointer (some ⟨c.g, 0, none⟩), .agg d.ar]).run Tryz.prog z6 = .ok (.enter wf #[.pointer (some ⟨c.g, 0, none⟩), .agg d.ar]) z6 := by rw [HWF.o.1]; exact xFn_call k _ _
   go_wp2_with (with_reducible refine wpq_at ?_; refine ldr rfl rfl rfl Tryz.underlying100 ld rfl ?_; try simp only [Act.put, sA, zA, cA])
   clear ld y3 cf
   refine (HW1.o v6 _ _ HS6.o.wq (by have := HLB.o; have := HST.o.2; simp only [List.length_append, List.length_cons, List.length_nil, numsOf_len]; omega)).mono ?_
   rintro e z7 ⟨v7, rfl, hQ7, hK7⟩
   have HS7 : Hd (WS c w v v7 ((if d.k < ((k + 1 : Nat) : Int) + 2 then R else bs)) d.cl z7) := (show WS _ _ _ _ _ _ _ by rw [if_pos (by have := HJ.o; omega), ← HR1.o]; exact HS6.o.step hQ7 hK7)
   clear hQ7 hK7 HS6 HI6
   go_wp2
   go_roundw
   case rel => exact ⟨k + 1, v7, by omega, by go_num, HS7⟩
   case measure => simp [intOf]; omega
 have kq : (kk == d.k) = false := by simp [hj]
 have HS7 : Hd (WS c w v v' ((if d.k < ((k + 1 : Nat) : Int) + 2 then R else bs)) d.cl W5) := (show WS _ _ _ _ _ _ _ by
  have h1 := HS5.o
  have h2 := HKQ.o
  by_cases h3 : d.k < (k : Int) + 2
  · rw [if_pos h3] at h1
    rw [if_pos (by omega)]
    exact h1
  rw [if_neg h3] at h1
  rw [if_neg (by omega)]
  exact h1)
 clear HS5 HI5 hj
 go_wp2
 go_roundw
 case rel => exact ⟨k + 1, v', by omega, by go_num, HS7⟩
 case measure => simp [intOf]; omega
theorem xwrites (c : WC) (d : EN) (kid : Nat → ET) (hl : (ET.mk d kid).lies 0 c.w0) {lim deep : Int} (hok : eOk lim (.mk d kid) deep) (IH : ∀ i, i < d.n → SayX c (kid i)) : XWrites c d kid := by
 obtain ⟨hv, htm, hf, hn2, hR, hk⟩ := hl
 obtain ⟨hdp, ⟨hko, hvo, _, hto, _, hop, _⟩, hkid⟩ := hok
 have hL := fun i (hi : i < d.n) => eTx_len (hkid i hi)
 unfold kOk at hko
 intro k hk6 hkd
 have hX : eTx (.mk d kid) = if d.k = 0 then vTx d.v.b else if d.k = 1 then tTx d.t else if d.k = 2 then [40, 32] ++ (eTx (kid 0) ++ ([opB d.op, 32] ++ (eTx (kid 1) ++ [41, 32]))) else if d.k = 3 then [78, 79, 84, 32] ++ eTx (kid 0)
  else if d.k = 4 then [66, 79, 85, 78, 68, 32] ++ vTx d.v.b else if d.k = 5 then [73, 70, 32] ++ (eTx (kid 0) ++ (eTx (kid 1) ++ eTx (kid 2))) else if d.k = 7 then [76, 69, 78, 32] ++ eTx (kid 0) else [67, 79, 65, 76, 32, 123, 32] ++ (catN d.n (fun i => eTx (kid i)) ++ [125, 32]) := eTx_mk d kid
 rcases (by omega : k = 0 ∨ k = 1 ∨ k = 2 ∨ k = 3 ∨ k = 4 ∨ k = 5) with rfl | rfl | rfl | rfl | rfl | rfl
 · have hd : d.k = 2 := by omega
   have hn : d.n = 2 := by omega
   refine ⟨eTx (kid 0) ++ ([opB d.op, 32] ++ (eTx (kid 1) ++ [41, 32])), ?_, fun v bs W hW hb => ?_⟩
   · rw [hX, hd]; rfl
   exact (operation_any c d kid v bs W hW hR hn hop hL (by omega) IH).mono fun e w' h => h.to (by simp)
 · have hd : d.k = 3 := by omega
   have hn : d.n = 1 := by omega
   refine ⟨eTx (kid 0), ?_, fun v bs W hW hb => ?_⟩
   · rw [hX, hd]; rfl
   exact (wkids_any c d kid v bs W hW hn2 hR hL (by omega) IH).mono fun e w' h => h.to (by rw [hn]; simp [catN])
 · have hd : d.k = 4 := by omega
   refine ⟨vTx d.v.b, ?_, fun v bs W hW hb => ?_⟩
   · rw [hX, hd]; rfl
   exact wbound_any c d v bs W hW hv (hvo (.inr hd)) (by omega)
 · have hd : d.k = 5 := by omega
   have hn : d.n = 3 := by omega
   refine ⟨eTx (kid 0) ++ (eTx (kid 1) ++ eTx (kid 2)), ?_, fun v bs W hW hb => ?_⟩
   · rw [hX, hd]; rfl
   exact (wkids_any c d kid v bs W hW hn2 hR hL (by omega) IH).mono fun e w' h => h.to (by rw [hn]; simp [catN])
 · have hd : d.k = 6 := by omega
   refine ⟨[123, 32] ++ (catN d.n (fun i => eTx (kid i)) ++ [125, 32]), ?_, fun v bs W hW hb => ?_⟩
   · rw [hX, hd]; rfl
   exact (coal_any c d kid v bs W hW hn2 hR hL (by omega) IH).mono fun e w' h => h.to (by simp)
 have hd : d.k = 7 := by omega
 have hn : d.n = 1 := by omega
 refine ⟨eTx (kid 0), ?_, fun v bs W hW hb => ?_⟩
 · rw [hX, hd]; rfl
 exact (wkids_any c d kid v bs W hW hn2 hR hL (by omega) IH).mono fun e w' h => h.to (by rw [hn]; simp [catN])
theorem sayX_any (c : WC) (r2 : Nat) (ht : Tab c.w0) (hX : XRules c r2) {lim : Int} (e : ET) : ∀ (deep : Int), e.lies 0 c.w0 → eOk lim e deep → SayX c e := by
 induction e with
 | nil => exact fun _ h => False.elim h
 | mk d kid ih =>
  intro deep hl hok v bs W hW hn
  have IH := fun i (hi : i < d.n) => ih i (deep + 1) (hl.2.2.2.2.2 i hi) (hok.2.2 i hi)
  exact expr_of c d kid r2 v bs W hW ht hX hl hok hn (xwrites c d kid hl hok IH)
end Go.Proofs.YthljoojcpbignaaGreatDoor
