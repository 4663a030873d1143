import Derived.Test.YthljoojcpbignaaGreatDoorMk18
import Derived.Test.YthljoojcpbignaaGreatDoorMk34
namespace Go.Proofs.YthljoojcpbignaaGreatDoor
open Go.RowKit Go.Deep
set_option maxHeartbeats 40000000
set_option maxRecDepth 100000
structure WC where
 w0 : World
 B : Nat
 g : Nat
 G : List Value
 RT : Addr → Value → Prop
structure WQ (c : WC) (w : World) (v : Value) (bs : List Int) : Prop where
 gr : ∀ i u, i < 3 → c.G[i]? = some u → w.cell? ⟨c.g, i, none⟩ = some u
 rt : ∀ p u, c.RT p u → p.block < c.B ∧ p.block ≠ c.g ∧ w.cell? p = some u
 cell : w.cell? ⟨c.g, 3, none⟩ = some v
 fr : w.frozen? ⟨c.g, 3, none⟩ = false
 lt : c.g < w.heap.size
 own : Own8 w c.B v bs.length bs
 ne : v.ownBlock ≠ some c.g
 lo : c.w0.heap.size ≤ c.B
 gl : c.w0.heap.size ≤ c.g
 bl : Below c.w0.heap.size c.w0 w
 sz : c.B ≤ w.heap.size
theorem WQ.below {c : WC} {w w' : World} {v : Value} {bs : List Int} (h : WQ c w v bs) (hb : Bl w w') : WQ c w' v bs :=
 ⟨fun i u hi hu => (hb.cell (p := ⟨c.g, i, none⟩) h.lt).trans (h.gr i u hi hu), fun p u hp => ⟨(h.rt p u hp).1, (h.rt p u hp).2.1, (hb.cell (p := p) (Nat.lt_of_lt_of_le (h.rt p u hp).1 h.sz)).trans (h.rt p u hp).2.2⟩, (hb.cell (p := ⟨c.g, 3, none⟩) h.lt).trans h.cell, (hb.frozen (p := ⟨c.g, 3, none⟩) h.lt).trans h.fr, Nat.lt_of_lt_of_le h.lt hb.size, h.own.below hb, h.ne, h.lo, h.gl, h.bl.trans (hb.mono h.bl.size), Nat.le_trans h.sz hb.size⟩
def PutQ (c : WC) (v : Value) (R : List Int) (w : World) (e : Ending) (w' : World) : Prop := ∃ v', e = .returned (.tuple #[]) ∧ WQ c w' v' R ∧ KQ c.g v w v' w'
theorem Own8.keep8 {w w' : World} {B n : Nat} {v : Value} {bs : List Int} (h : Own8 w B v n bs) (hs : w.heap.size ≤ w'.heap.size) (hb : ∀ g, v.ownBlock = some g → w'.heap[g]? = w.heap[g]?) : Own8 w' B v n bs := by
 refine ⟨⟨h.1.1, ?_⟩, fun g hg => ⟨(h.2 g hg).1, Nat.lt_of_lt_of_le (h.2 g hg).2 hs⟩⟩
 rcases h.1.2 with hz | ⟨g0, cap, cur, hv, hB, hg0, hr⟩
 · exact .inl hz
 exact .inr ⟨g0, cap, cur, hv, hB, (hb g0 (by rw [hv]; rfl)).trans hg0, hr⟩
theorem WQ.put {c : WC} {w w9 : World} {v v9 : Value} {bs bs9 : List Int} (h : WQ c w v bs) (hK : Kp v w v9 w9) (hO : Own8 w9 c.B v9 bs9.length bs9) : WQ c (w9.setCell ⟨c.g, 3, none⟩ v9) v9 bs9 ∧ KQ c.g v w v9 (w9.setCell ⟨c.g, 3, none⟩ v9) := by
 have hb := hK.block c.g h.lt h.ne
 have hc := (World.cell?_of_block (w := w) (a := ⟨c.g, 3, none⟩) hb).trans h.cell
 have hne : v9.ownBlock ≠ some c.g := fun e => by
  rcases hK.blk c.g e with e | e
  · exact h.ne e
  have := h.lt
  omega
 have hp : Past c.g w9 (w9.setCell ⟨c.g, 3, none⟩ v9) := (Past.refl c.g w9).set 3 _
 have hq := (KQ.of_kp hK).past hp
 refine ⟨⟨fun i u hi hu => ?_, fun p u hp' => ⟨(h.rt p u hp').1, (h.rt p u hp').2.1, ?_⟩, set_same hc, ?_, Nat.lt_of_lt_of_le h.lt hq.size, ?_, hne, h.lo, h.gl, ?_, Nat.le_trans h.sz hq.size⟩, hq⟩
 · rw [set_other (by omega)]
   exact (World.cell?_of_block (w := w) (a := ⟨c.g, i, none⟩) hb).trans (h.gr i u hi hu)
 · have h1 := h.rt p u hp'
   have h2 := hq.block p.block (Nat.lt_of_lt_of_le h1.1 h.sz) h1.2.1 (fun e => by have := (h.own.2 _ e).1; omega)
   exact (World.cell?_of_block (w := w) (a := p) h2).trans h1.2.2
 · rw [World.frozen?_setCell]
   exact (World.frozen?_of_block (w := w) (a := ⟨c.g, 3, none⟩) hb).trans h.fr
 · exact hO.keep8 hp.size (fun b hb' => hp.block b (hO.2 b hb').2 (fun e => hne (by rw [← e]; exact hb')))
 exact h.bl.trans (hq.low (fun d hd => Nat.le_trans h.lo (h.own.2 d hd).1) h.gl h.bl.size)
structure WS (c : WC) (w : World) (v0 v : Value) (bs : List Int) (cs : List Value) (W : World) : Prop where
 wq : WQ c W v bs
 kq : KQ c.g v0 w v W
 bx : Box W w.heap.size cs
 ne : v.ownBlock ≠ some w.heap.size
 gw : c.g < w.heap.size
theorem WS.new {c : WC} {w : World} {v : Value} {bs : List Int} (h : WQ c w v bs) (cs : Array Value) (t : TypeId) : WS c w v v bs cs.toList (w.alloc (.cells cs t)) :=
 ⟨h.below (bl_a _), KQ.of_below (bl_a _), Box.new w cs t (0, 0), fun e => by have := (h.own.2 _ e).2; omega, h.lt⟩
theorem WS.below {c : WC} {w : World} {v0 v : Value} {bs : List Int} {cs : List Value} {W W' : World} (h : WS c w v0 v bs cs W) (hb : Bl W W') : WS c w v0 v bs cs W' :=
 ⟨h.wq.below hb, h.kq.trans (KQ.of_below hb), h.bx.below hb, h.ne, h.gw⟩
theorem WS.step {c : WC} {w : World} {v0 v v' : Value} {bs bs' : List Int} {cs : List Value} {W W' : World} (h : WS c w v0 v bs cs W) (hV : WQ c W' v' bs') (hK : KQ c.g v W v' W') : WS c w v0 v' bs' cs W' :=
 ⟨hV, h.kq.trans hK, hK.box h.bx (by have := h.gw; omega) h.ne, fun e => by
  rcases hK.blk _ e with e | e
  · exact h.ne e
  have := h.bx.1
  omega, h.gw⟩
theorem WS.put {c : WC} {w : World} {v0 v : Value} {bs : List Int} {cs : List Value} {W : World} (h : WS c w v0 v bs cs W) : PutQ c v0 bs w (.returned (.tuple #[])) W := ⟨v, rfl, h.wq, h.kq⟩
theorem PutQ.to {c : WC} {v : Value} {R R' : List Int} {w w' : World} {e : Ending} (h : PutQ c v R w e w') (hr : R = R') : PutQ c v R' w e w' := hr ▸ h
theorem PutQ.pre {c : WC} {v : Value} {R : List Int} {w w1 w' : World} {e : Ending} (hb : Bl w w1) (h : PutQ c v R w1 e w') : PutQ c v R w e w' := by
 obtain ⟨v', h1, h2, h3⟩ := h
 exact ⟨v', h1, h2, (KQ.of_below hb).trans h3⟩
theorem PutQ.after {c : WC} {v v1 : Value} {R : List Int} {w w1 w' : World} {e : Ending} (hk : KQ c.g v w v1 w1) (h : PutQ c v1 R w1 e w') : PutQ c v R w e w' := by
 obtain ⟨v', h1, h2, h3⟩ := h
 exact ⟨v', h1, h2, hk.trans h3⟩
theorem catTok_len (tok : Nat → ByteArray) (k : Nat) : (catN k (fun i => numsOf (tok i) ++ [32])).length = sumN k (fun i => (tok i).size + 1) := by
 induction k with
 | zero => rfl
 | succ k ih =>
  show (catN k (fun i => numsOf (tok i) ++ [32]) ++ (numsOf (tok k) ++ [32])).length = sumN k (fun i => (tok i).size + 1) + ((tok k).size + 1)
  rw [List.length_append, ih]
  simp [numsOf]
theorem put_any (c : WC) (b off n cap : Nat) (tok : Nat → ByteArray) (v : Value) (bs : List Int) (w : World) (h : WQ c w v bs) (hn2 : n ≤ 2) (hb : b < w.heap.size) (hg : b ≠ c.g) (hv : v.ownBlock ≠ some b) (ht : ∀ i, i < n → w.cell? ⟨b, off + i, none⟩ = some (.string (tok i))) (hs : ∀ i, i < n → 0 < (tok i).size) (hn : bs.length + sumN n (fun i => (tok i).size + 1) ≤ 1000000) :
 Calls Tryz.prog 78 #[.pointer (some ⟨c.g, 0, none⟩), .slice (some ⟨b, off, none⟩) n cap] w (PutQ c v (bs ++ catN n (fun i => numsOf (tok i) ++ [32])) w) := by
 have H0 := iH h
 have HT := iH ht
 have HSZ := iH hs
 have HNB := iH hv
 have HLN : Hd (∀ k, k < n → (bs ++ catN k (fun i => numsOf (tok i) ++ [32])).length + (tok k).size + 1 ≤ 1000000) := fun k hk => by
  rw [List.length_append, catTok_len]
  have h3 := sumN_mono (f := fun i => (tok i).size + 1) (show k + 1 ≤ n by omega)
  have h4 : sumN (k + 1) (fun i => (tok i).size + 1) = sumN k (fun i => (tok i).size + 1) + ((tok k).size + 1) := rfl
  omega
 clear h hv ht hs hn
 go_in
 go_wp2_with fail
 go_loopw [8] (fun i wr => ∃ (k : Nat) (v' : Value), k ≤ n ∧ i = .int .i64 k ∧ Hd (WQ c wr v' (bs ++ catN k (fun i => numsOf (tok i) ++ [32]))) ∧ Hd (KQ c.g v w v' wr)) (fun i _ => n - (intOf i).toNat)
 case atStart => exact ⟨0, v, nZ, rfl, (show Hd (WQ c _ v (bs ++ [])) by rw [List.append_nil]; exact H0), KQ.of_below brf⟩
 clear H0
 obtain ⟨k, v', hk, rfl, HQr, HKr⟩ := hrel
 by_cases hlk : k < n
 rotate_left
 · obtain rfl : k = n := by omega
   have hlkz : ¬ (k : Int) < (k : Int) := by omega
   go_wp2
   go_end0
   exact ⟨v', rfl, HQr.o, HKr.o⟩
 have hlkz : (k : Int) < (n : Int) := by omega
 have ck := (World.cell?_of_block (w := w) (a := ⟨b, off + k, none⟩) (HKr.o.block b hb hg HNB.o)).trans (HT.o k hlk)
 have hlen := HLN.o k hlk
 have hsk := HSZ.o k hlk
 have HSU : Hd (bs ++ catN (k + 1) (fun i => numsOf (tok i) ++ [32]) = (bs ++ catN k (fun i => numsOf (tok i) ++ [32])) ++ (numsOf (tok k) ++ [32])) := (show bs ++ (catN k _ ++ (numsOf (tok k) ++ [32])) = _ by rw [List.append_assoc])
 generalize bs ++ catN k (fun i => numsOf (tok i) ++ [32]) = us at *
 generalize tok k = st at *
 obtain ⟨m, hm⟩ : ∃ m, m = us.length := ⟨_, rfl⟩
 have HM := iH hm
 have HO1 := iH (show Own8 wr c.B v' m us by rw [hm]; exact HQr.o.own)
 have hB := HQr.o.sz
 have HCL : Hd (∀ v9 w9, Kp v' wr v9 w9 → w9.cell? ⟨c.g, 3, none⟩ = some v' ∧ w9.frozen? ⟨c.g, 3, none⟩ = false) := fun v9 w9 hK => ⟨(World.cell?_of_block (w := wr) (a := ⟨c.g, 3, none⟩) (hK.block c.g HQr.o.lt HQr.o.ne)).trans HQr.o.cell, (World.frozen?_of_block (w := wr) (a := ⟨c.g, 3, none⟩) (hK.block c.g HQr.o.lt HQr.o.ne)).trans HQr.o.fr⟩
 have cg := HQr.o.cell
 rw [← hm] at hlen
 clear hm
 go_wp2_with (first
  | (refine app8sk rfl (.tmp 16) (.tmp 17) rfl c.B v' m us rfl HO1 st rfl hsk (m + st.size) rfl (us ++ numsOf st) rfl (by omega) hB ?_; intro g4 c4 w4 HR4 HK4; have HO4 := hidU (HR4.o.below (bl_a (.cells #[.int .u8 32] 5))); have HN4 := hidU (one_news w4 32); have hB4 : c.B ≤ (w4.alloc (.cells #[.int .u8 32] 5)).heap.size := Nat.le_trans hB (Nat.le_trans HK4.o.size (by simp)); clear HO1)
  | (refine app8k rfl (.tmp 18) (.tmp 19) rfl c.B (.slice (some ⟨g4, 0, none⟩) (m + st.size) c4) (m + st.size) (us ++ numsOf st) rfl HO4 ⟨w4.heap.size, 0, none⟩ 1 1 [32] rfl rfl HN4 (by omega) (m + st.size + 1) rfl (us ++ numsOf st ++ [32]) rfl (by omega) hB4 ?_; intro g5 c5 w5 HR5 HK5; have HKK : Hd (Kp v' wr (.slice (some ⟨g5, 0, none⟩) (m + st.size + 1) c5) w5) := HK4.o.trans (Kp.pre (bl_a _) HK5.o); obtain ⟨cc9, ff9⟩ := HCL.o _ _ HKK.o; clear HO4 HN4 hB4))
 go_roundw
 case rel =>
  have hO5 : Own8 w5 c.B (.slice (some ⟨g5, 0, none⟩) (m + st.size + 1) c5) (us ++ (numsOf st ++ [32])).length (us ++ (numsOf st ++ [32])) := HR5.o.to (by simp) (by have h := HR5.o.len; simp at h ⊢; omega)
  obtain ⟨r1, r2⟩ := HQr.o.put HKK.o hO5
  exact ⟨k + 1, _, by omega, by go_num, (show Hd (WQ _ _ _ _) by rw [HSU.o]; exact r1), HKr.o.trans r2⟩
 case measure => simp [intOf]; omega
theorem put1 (c : WC) (st : ByteArray) (v : Value) (bs : List Int) (w : World) (h : WQ c w v bs) (hs : 0 < st.size) (hn : bs.length + st.size + 1 ≤ 1000000) :
 Calls Tryz.prog 78 #[.pointer (some ⟨c.g, 0, none⟩), .slice (some ⟨w.heap.size, 0, none⟩) 1 1] (w.alloc (.cells #[.string st] 9)) (PutQ c v (bs ++ (numsOf st ++ [32])) w) := by
 refine (put_any c w.heap.size 0 1 1 (fun _ => st) v bs _ (h.below (bl_a _)) (by omega) (by simp) (by have := h.lt; omega) (fun e => by have := (h.own.2 _ e).2; omega) (fun i hi => ?_) (fun _ _ => hs) (by simp [sumN]; omega)).mono fun e w' hr => ?_
 · obtain rfl : i = 0 := by omega
   simp [go_sem]
 exact (PutQ.pre (bl_a _) hr).to (by simp [catN])
theorem put1h (c : WC) (st : ByteArray) (v : Value) (bs : List Int) (w : World) (H : Nat) (hH : H = w.heap.size) (h : WQ c w v bs) (hs : 0 < st.size) (hn : bs.length + st.size + 1 ≤ 1000000) :
 Calls Tryz.prog 78 #[.pointer (some ⟨c.g, 0, none⟩), .slice (some ⟨H, 0, none⟩) 1 1] (w.alloc (.cells #[.string st] 9)) (PutQ c v (bs ++ (numsOf st ++ [32])) w) := by
 subst hH
 exact put1 c st v bs w h hs hn
theorem put2 (c : WC) (s1 s2 : ByteArray) (v : Value) (bs : List Int) (w : World) (h : WQ c w v bs) (h1 : 0 < s1.size) (h2 : 0 < s2.size) (hn : bs.length + s1.size + s2.size + 2 ≤ 1000000) :
 Calls Tryz.prog 78 #[.pointer (some ⟨c.g, 0, none⟩), .slice (some ⟨w.heap.size, 0, none⟩) 2 2] (w.alloc (.cells #[.string s1, .string s2] 9)) (PutQ c v (bs ++ (numsOf s1 ++ [32]) ++ (numsOf s2 ++ [32])) w) := by
 refine (put_any c w.heap.size 0 2 2 (fun i => if i = 0 then s1 else s2) v bs _ (h.below (bl_a _)) (by omega) (by simp) (by have := h.lt; omega) (fun e => by have := (h.own.2 _ e).2; omega) (fun i hi => ?_) (fun i _ => by split <;> assumption) (by simp [sumN]; omega)).mono fun e w' hr => ?_
 · rcases (by omega : i = 0 ∨ i = 1) with rfl | rfl <;> simp [go_sem]
 exact (PutQ.pre (bl_a _) hr).to (by simp [catN])
theorem variable_any (c : WC) (x : SL) (v : Value) (bs : List Int) (w : World) (h : WQ c w v bs) (hx : BsF 0 c.w0 x) (hk : nameOk x.b = true) (hn : bs.length ≤ 990000) :
 Calls Tryz.prog 188 #[.pointer (some ⟨c.g, 0, none⟩), .slice x.a x.len x.cap] w (PutQ c v (bs ++ vTx x.b) w) := by
 have cv := (hx.upper (uB h.bl)).1.str (cap := x.cap)
 have HBy := iH (numsOf_nums hx.1.byt)
 have hz : (strOfNums x.b).size ≤ 12 := by rw [strOfNums_size]; exact (name_len hk).2
 have HP : Hd (∀ st : ByteArray, 0 < st.size → st.size ≤ 13 → Cl 78 #[.pointer (some ⟨c.g, 0, none⟩), .slice (some ⟨w.heap.size, 0, none⟩) 1 1] (w.alloc (.cells #[.string st] 9)) (PutQ c v (bs ++ (numsOf st ++ [32])) w)) := fun st h1 h2 => put1 c st v bs w h h1 (by omega)
 clear h hx hk
 generalize strOfNums x.b = st at *
 go_in
 go_wp2_with fail
 refine (HP.o _ (by rw [ByteArray.size_append]; exact Nat.lt_of_lt_of_le (show 0 < (ByteArray.mk #[63]).size by decide) (Nat.le_add_right _ _)) (by rw [ByteArray.size_append]; show 1 + st.size ≤ 13; omega)).mono ?_
 rintro e w1 ⟨v1, rfl, hQ1, hK1⟩
 have HR : Hd (PutQ c v (bs ++ vTx x.b) w (.returned (.tuple #[])) w1) := PutQ.to ⟨v1, rfl, hQ1, hK1⟩ (by unfold vTx; rw [numsOf_append, HBy.o]; simp [numsOf])
 clear hQ1 hK1 cv
 go_wp2
 go_end0
 exact HR.o
theorem term_any (c : WC) (x : TB) (v : Value) (bs : List Int) (w : World) (h : WQ c w v bs) (ht : Tab c.w0) (hx : BsF 0 c.w0 x.sl ∧ x.t.fits) (hk : x.td.ok = true) (hn : bs.length ≤ 990000) :
 Calls Tryz.prog 216 #[.pointer (some ⟨c.g, 0, none⟩), .agg #[.int .i64 x.t.k, .slice x.t.a x.t.len x.t.cap, .int .i64 x.t.n, .int .i64 x.t.s]] w (PutQ c v (bs ++ tTx x) w) := by
 have hto : termOk x.t.k x.b x.t.n x.t.s = true := hk
 have HSL : Hd (1 ≤ (x.t.show x.b).length ∧ (x.t.show x.b).length ≤ 64) := Tm.show_len hk
 have HTX : Hd (tTx x = x.t.show x.b ++ [32]) := rfl
 have SH : Hd (∀ o, Cl 237 #[.agg #[.int .i64 x.t.k, .slice x.t.a x.t.len x.t.cap, .int .i64 x.t.n, .int .i64 x.t.s]] (w.alloc o) fun e w' => TxRes (w.alloc o) (x.t.show x.b) e w') := fun o => by
  have hx' := hx.1.upper (uB (h.bl.trans ((bl_a o).mono h.bl.size)))
  have h1 := implShow_any x.t.k x.t.n x.t.s x.t.a x.t.len x.t.cap x.b (w.alloc o) hx'.1 hx.2.1 hx.2.2.1 hx.2.2.2.1 hx.2.2.2.2 (ht.below (h.bl.trans ((bl_a o).mono h.bl.size)))
  unfold shownL at h1
  rwa [if_pos hto] at h1
 have HBy : Hd (Byt (x.t.show x.b)) := showL_byt hx.1.1.byt
 have HP : Hd (∀ W (st : ByteArray), Bl w W → 0 < st.size → st.size ≤ 64 → Cl 78 #[.pointer (some ⟨c.g, 0, none⟩), .slice (some ⟨W.heap.size, 0, none⟩) 1 1] (W.alloc (.cells #[.string st] 9)) (PutQ c v (bs ++ (numsOf st ++ [32])) W)) := fun W st hb h1 h2 => put1 c st v bs W (h.below hb) h1 (by omega)
 clear h hx hk hto ht
 generalize x.t.show x.b = L1 at *
 go_in
 go_wp2_with fail
 refine (SH.o _).mono ?_
 rintro e w1 ⟨a1, c1, rfl, hn1, hb1⟩
 have HB := iH (bl_trans (bl_a _) hb1)
 have cv := hn1.bs.str (cap := c1)
 have HNS := iH (numsOf_nums HBy.o)
 have HSS : Hd ((strOfNums L1).size = L1.length) := strOfNums_size _
 clear hn1 hb1 SH
 go_wp2_with fail
 refine (HP.o w1 _ HB.o (by rw [HSS.o]; exact HSL.o.1) (by rw [HSS.o]; exact HSL.o.2)).mono ?_
 rintro e w2 hp
 have HR : Hd (PutQ c v (bs ++ tTx x) w e w2) := (PutQ.pre HB.o hp).to (by rw [HTX.o, HNS.o])
 obtain ⟨v2, rfl, _, _⟩ := hp
 clear cv
 go_wp2
 go_end0
 exact HR.o
theorem item_any (c : WC) (x : IB) (m : Int) (v : Value) (bs : List Int) (w : World) (h : WQ c w v bs) (ht : Tab c.w0) (hx : x.lies 0 c.w0) (hok : itOk x m) (hn : bs.length ≤ 990000) :
 Calls Tryz.prog 223 #[.pointer (some ⟨c.g, 0, none⟩), .agg x.ar] w (PutQ c v (bs ++ itTx x) w) := by
 have HIV := iH (fun o => isVar_any x _ (hx.upper (uB (h.bl.trans ((bl_a o).mono h.bl.size)))))
 have HS0 := iH (WS.new h x.ar 95)
 have HX := iH hx
 have HT := iH ht
 have HOK := iH hok
 clear h hx ht hok
 go_in
 go_wp2_with fail
 refine (HIV.o _).mono ?_
 rintro e w1 ⟨q, rfl, hq, hb1⟩
 have HS1 := iH (HS0.o.below hb1)
 clear hb1 HIV HS0
 have y0 := HS1.o.bx.2 0 _ rfl
 have lp := HS1.o.bx.range 1 [.int .i64 x.t.t.k, .slice x.t.t.a x.t.t.len x.t.t.cap, .int .i64 x.t.t.n, .int .i64 x.t.t.s] rfl
 cases q with
 | true =>
  have h1 := hq.1 rfl
  have HNM := iH (show _ = _ by rcases HOK.o with ⟨_, h2, _⟩ | ⟨h2, _, _⟩; exact h2; exact absurd h2 h1)
  have HTX := iH (show itTx x = _ by unfold itTx; rw [if_neg h1])
  clear hq h1
  go_wp2_with fail
  refine (variable_any c x.v v bs _ HS1.o.wq HX.o.1 HNM.o hn).mono ?_
  rintro e w2 hp
  have HR : Hd (PutQ c v (bs ++ itTx x) w e w2) := (PutQ.after HS1.o.kq hp).to (by rw [HTX.o])
  obtain ⟨v2, rfl, _, _⟩ := hp
  go_wp2
  go_end0
  exact HR.o
 | false =>
  have h1 := Classical.byContradiction fun hc => by have := hq.2 hc; cases this
  have HNM := iH (show _ = _ by rcases HOK.o with ⟨h2, _, _⟩ | ⟨_, h2, _⟩; exact absurd h1 h2; exact h2)
  have HTX := iH (show itTx x = _ by unfold itTx; rw [if_pos h1])
  clear hq h1
  go_wp2_with (with_reducible refine wpq_at ?_; refine ldr rfl rfl rfl Tryz.underlying93 lp rfl ?_; try simp only [Act.put, sA, zA, cA])
  refine (term_any c x.t v bs _ HS1.o.wq HT.o HX.o.2 HNM.o hn).mono ?_
  rintro e w2 hp
  have HR : Hd (PutQ c v (bs ++ itTx x) w e w2) := (PutQ.after HS1.o.kq hp).to (by rw [HTX.o])
  obtain ⟨v2, rfl, _, _⟩ := hp
  go_wp2
  go_end0
  exact HR.o
theorem pat_any (c : WC) (x : PB) (v : Value) (bs : List Int) (w : World) (h : WQ c w v bs) (ht : Tab c.w0) (hx : x.lies 0 c.w0) (hok : ptOk x) (hn : bs.length ≤ 980000) :
 Calls Tryz.prog 189 #[.pointer (some ⟨c.g, 0, none⟩), .agg x.ar] w (PutQ c v (bs ++ itTx x.s ++ itTx x.p ++ itTx x.o ++ [46, 32]) w) := by
 have HS0 := iH (WS.new h x.ar 97)
 have HX := iH hx
 have HT := iH ht
 have HOK := iH hok
 have HL : Hd ((itTx x.s).length ≤ 65 ∧ (itTx x.p).length ≤ 65 ∧ (itTx x.o).length ≤ 65) := ⟨itTx_len hok.1, itTx_len hok.2.1, itTx_len hok.2.2⟩
 clear h hx ht hok
 go_in
 go_upto_region 1 with fail
 generalize (w.alloc (.cells x.ar 97)) = W1 at *
 have lp := HS0.o.bx.range 0 x.s.cl rfl
 go_wp2_with (with_reducible refine wpq_at ?_; refine ldr rfl rfl rfl Tryz.underlying95 lp rfl ?_; try simp only [Act.put, sA, zA, cA])
 refine (item_any c x.s _ v (bs) _ HS0.o.wq HT.o HX.o.1 HOK.o.1 (by have hh := HL.o; (try simp only [List.length_append]); omega)).mono ?_
 rintro e z1 ⟨v1, rfl, hQ1, hK1⟩
 have HS1 := iH (HS0.o.step hQ1 hK1)
 clear hQ1 hK1 HS0 lp
 have lp := HS1.o.bx.range 5 x.p.cl rfl
 go_wp2_with (with_reducible refine wpq_at ?_; refine ldr rfl rfl rfl Tryz.underlying95 lp rfl ?_; try simp only [Act.put, sA, zA, cA])
 refine (item_any c x.p _ v1 (bs ++ itTx x.s) _ HS1.o.wq HT.o HX.o.2.1 HOK.o.2.1 (by have hh := HL.o; (try simp only [List.length_append]); omega)).mono ?_
 rintro e z2 ⟨v2, rfl, hQ2, hK2⟩
 have HS2 := iH (HS1.o.step hQ2 hK2)
 clear hQ2 hK2 HS1 lp
 have lp := HS2.o.bx.range 10 x.o.cl rfl
 go_wp2_with (with_reducible refine wpq_at ?_; refine ldr rfl rfl rfl Tryz.underlying95 lp rfl ?_; try simp only [Act.put, sA, zA, cA])
 refine (item_any c x.o _ v2 _ _ HS2.o.wq HT.o HX.o.2.2 HOK.o.2.2 (by have hh := HL.o; (try simp only [List.length_append]); omega)).mono ?_
 rintro e z3 ⟨v3, rfl, hQ3, hK3⟩
 have HS3 := iH (HS2.o.step hQ3 hK3)
 clear hQ3 hK3 HS2 lp
 go_wp2_with fail
 refine (put1 c ⟨#[46]⟩ v3 _ z3 HS3.o.wq (by decide) (by have hh := HL.o; rw [show (ByteArray.mk #[46]).size = 1 from rfl]; simp only [List.length_append]; omega)).mono ?_
 rintro e z4 hp
 have HR : Hd (PutQ c v (bs ++ itTx x.s ++ itTx x.p ++ itTx x.o ++ [46, 32]) w e z4) := PutQ.after HS3.o.kq hp
 obtain ⟨v4, rfl, _, _⟩ := hp
 go_wp2
 go_end0
 exact HR.o
theorem sel_any (c : WC) (s : SE) (v : Value) (bs : List Int) (w : World) (h : WQ c w v bs) (hs : s.lies 0 c.w0) (hf : s.fn = 0 ∨ s.fn = 1 ∨ s.fn = 2) (hv : nameOk s.v.b = true) (ho : s.fn ≠ 0 → nameOk s.of.b = true) (hm : bs.length ≤ 900000) :
 Calls Tryz.prog 118 #[.pointer (some ⟨c.g, 0, none⟩), .agg #[.int .i64 s.fn, .slice s.of.a s.of.len s.of.cap, .slice s.v.a s.v.len s.v.cap]] w (PutQ c v (bs ++ selTx s) w) := by
 have HS0 := iH (WS.new h #[.int .i64 s.fn, .slice s.of.a s.of.len s.of.cap, .slice s.v.a s.v.len s.v.cap] 105)
 have HV : Hd (BsF 0 c.w0 s.of ∧ BsF 0 c.w0 s.v) := hs
 have HNV := iH hv
 clear h hs hv
 rcases hf with h0 | h0 | h0
 · have HTX := iH (show selTx s = _ by unfold selTx; rw [if_pos h0])
   rw [h0] at HS0 ⊢
   clear h0 ho
   go_in
   go_wp2_with fail
   refine (variable_any c s.v v bs _ HS0.o.wq HV.o.2 HNV.o (by omega)).mono ?_
   rintro e z1 ⟨v1, rfl, hQ1, hK1⟩
   have HS1 := iH (HS0.o.step hQ1 hK1)
   clear hQ1 hK1 HS0
   go_wp2
   go_end0
   exact HS1.o.put.to (by rw [HTX.o])
 · have HNO := iH (ho (by omega))
   have HL : Hd ((vTx s.of.b).length ≤ 14 ∧ (vTx s.v.b).length ≤ 14) := ⟨vTx_len HNO.o, vTx_len HNV.o⟩
   have HTX := iH (show selTx s = _ by unfold selTx; rw [if_neg (by omega), if_pos h0])
   rw [h0] at HS0 ⊢
   clear h0 ho
   go_in
   go_upto_region 1 with fail
   generalize (w.alloc (.cells #[.int .i64 1, .slice s.of.a s.of.len s.of.cap, .slice s.v.a s.v.len s.v.cap] 105)) = W1 at *
   have y0 := HS0.o.bx.2 0 _ rfl
   go_wp2_with fail
   refine (put2 c ⟨#[40]⟩ _ v bs _ HS0.o.wq (by decide) (by decide) (by rw [show (ByteArray.mk #[40]).size = 1 from rfl, show (ByteArray.mk #[67, 79, 85, 78, 84]).size = 5 from rfl]; omega)).mono ?_
   rintro e z1 ⟨v1, rfl, hQ1, hK1⟩
   have HS1 : Hd (WS c w v v1 (bs ++ [40, 32] ++ [67, 79, 85, 78, 84, 32]) [.int .i64 1, .slice s.of.a s.of.len s.of.cap, .slice s.v.a s.v.len s.v.cap] z1) := HS0.o.step hQ1 hK1
   clear hQ1 hK1 HS0
   have y1 := HS1.o.bx.2 1 _ rfl
   go_wp2_with fail
   refine (variable_any c s.of v1 _ _ HS1.o.wq HV.o.1 HNO.o (by (try simp only [lA, lC, lN]); omega)).mono ?_
   rintro e z2 ⟨v2, rfl, hQ2, hK2⟩
   have HS2 := iH (HS1.o.step hQ2 hK2)
   clear hQ2 hK2 HS1
   clear y1
   go_wp2_with fail
   refine (put1 c ⟨#[65, 83]⟩ v2 _ _ HS2.o.wq (by decide) (by have q1 := HL.o.1; have q2 := HL.o.2; rw [show (ByteArray.mk #[65, 83]).size = 2 from rfl]; (try simp only [lA, lC, lN]); omega)).mono ?_
   rintro e z3 ⟨v3, rfl, hQ3, hK3⟩
   have HS3 : Hd (WS c w v v3 (bs ++ [40, 32] ++ [67, 79, 85, 78, 84, 32] ++ vTx s.of.b ++ [65, 83, 32]) [.int .i64 1, .slice s.of.a s.of.len s.of.cap, .slice s.v.a s.v.len s.v.cap] z3) := HS2.o.step hQ3 hK3
   clear hQ3 hK3 HS2
   have y2 := HS3.o.bx.2 2 _ rfl
   go_wp2_with fail
   refine (variable_any c s.v v3 _ _ HS3.o.wq HV.o.2 HNV.o (by have q1 := HL.o.1; have q2 := HL.o.2; (try simp only [lA, lC, lN]); omega)).mono ?_
   rintro e z4 ⟨v4, rfl, hQ4, hK4⟩
   have HS4 := iH (HS3.o.step hQ4 hK4)
   clear hQ4 hK4 HS3
   clear y2
   go_wp2_with fail
   refine (put1 c ⟨#[41]⟩ v4 _ _ HS4.o.wq (by decide) (by have q1 := HL.o.1; have q2 := HL.o.2; rw [show (ByteArray.mk #[41]).size = 1 from rfl]; (try simp only [lA, lC, lN]); omega)).mono ?_
   rintro e z5 ⟨v5, rfl, hQ5, hK5⟩
   have HS5 : Hd (WS c w v v5 (bs ++ [40, 32] ++ [67, 79, 85, 78, 84, 32] ++ vTx s.of.b ++ [65, 83, 32] ++ vTx s.v.b ++ [41, 32]) [.int .i64 1, .slice s.of.a s.of.len s.of.cap, .slice s.v.a s.v.len s.v.cap] z5) := HS4.o.step hQ5 hK5
   clear hQ5 hK5 HS4
   go_wp2
   go_end0
   exact HS5.o.put.to (by rw [HTX.o]; simp)
 have HNO := iH (ho (by omega))
 have HL : Hd ((vTx s.of.b).length ≤ 14 ∧ (vTx s.v.b).length ≤ 14) := ⟨vTx_len HNO.o, vTx_len HNV.o⟩
 have HTX := iH (show selTx s = _ by unfold selTx; rw [if_neg (by omega), if_neg (by omega)])
 rw [h0] at HS0 ⊢
 clear h0 ho
 go_in
 go_upto_region 1 with fail
 generalize (w.alloc (.cells #[.int .i64 2, .slice s.of.a s.of.len s.of.cap, .slice s.v.a s.v.len s.v.cap] 105)) = W1 at *
 have y0 := HS0.o.bx.2 0 _ rfl
 go_wp2_with fail
 refine (put2 c ⟨#[40]⟩ _ v bs _ HS0.o.wq (by decide) (by decide) (by rw [show (ByteArray.mk #[40]).size = 1 from rfl, show (ByteArray.mk #[83, 85, 77]).size = 3 from rfl]; omega)).mono ?_
 rintro e z1 ⟨v1, rfl, hQ1, hK1⟩
 have HS1 : Hd (WS c w v v1 (bs ++ [40, 32] ++ [83, 85, 77, 32]) [.int .i64 2, .slice s.of.a s.of.len s.of.cap, .slice s.v.a s.v.len s.v.cap] z1) := HS0.o.step hQ1 hK1
 clear hQ1 hK1 HS0
 have y1 := HS1.o.bx.2 1 _ rfl
 go_wp2_with fail
 refine (variable_any c s.of v1 _ _ HS1.o.wq HV.o.1 HNO.o (by (try simp only [lA, lC, lN]); omega)).mono ?_
 rintro e z2 ⟨v2, rfl, hQ2, hK2⟩
 have HS2 := iH (HS1.o.step hQ2 hK2)
 clear hQ2 hK2 HS1
 clear y1
 go_wp2_with fail
 refine (put1 c ⟨#[65, 83]⟩ v2 _ _ HS2.o.wq (by decide) (by have q1 := HL.o.1; have q2 := HL.o.2; rw [show (ByteArray.mk #[65, 83]).size = 2 from rfl]; (try simp only [lA, lC, lN]); omega)).mono ?_
 rintro e z3 ⟨v3, rfl, hQ3, hK3⟩
 have HS3 : Hd (WS c w v v3 (bs ++ [40, 32] ++ [83, 85, 77, 32] ++ vTx s.of.b ++ [65, 83, 32]) [.int .i64 2, .slice s.of.a s.of.len s.of.cap, .slice s.v.a s.v.len s.v.cap] z3) := HS2.o.step hQ3 hK3
 clear hQ3 hK3 HS2
 have y2 := HS3.o.bx.2 2 _ rfl
 go_wp2_with fail
 refine (variable_any c s.v v3 _ _ HS3.o.wq HV.o.2 HNV.o (by have q1 := HL.o.1; have q2 := HL.o.2; (try simp only [lA, lC, lN]); omega)).mono ?_
 rintro e z4 ⟨v4, rfl, hQ4, hK4⟩
 have HS4 := iH (HS3.o.step hQ4 hK4)
 clear hQ4 hK4 HS3
 clear y2
 go_wp2_with fail
 refine (put1 c ⟨#[41]⟩ v4 _ _ HS4.o.wq (by decide) (by have q1 := HL.o.1; have q2 := HL.o.2; rw [show (ByteArray.mk #[41]).size = 1 from rfl]; (try simp only [lA, lC, lN]); omega)).mono ?_
 rintro e z5 ⟨v5, rfl, hQ5, hK5⟩
 have HS5 : Hd (WS c w v v5 (bs ++ [40, 32] ++ [83, 85, 77, 32] ++ vTx s.of.b ++ [65, 83, 32] ++ vTx s.v.b ++ [41, 32]) [.int .i64 2, .slice s.of.a s.of.len s.of.cap, .slice s.v.a s.v.len s.v.cap] z5) := HS4.o.step hQ5 hK5
 clear hQ5 hK5 HS4
 go_wp2
 go_end0
 exact HS5.o.put.to (by rw [HTX.o]; simp)
theorem variables_any (c : WC) (a : Option Addr) (cap n : Nat) (var : Nat → SL) (v : Value) (bs : List Int) (w : World) (h : WQ c w v bs) (hn2 : n ≤ 8) (hR : KRow 0 c.w0 1 a n (fun i => (var i).cells)) (hXX : ∀ i, i < n → BsF 0 c.w0 (var i) ∧ nameOk (var i).b = true) (hm : bs.length ≤ 900000) :
 Calls Tryz.prog 174 #[.pointer (some ⟨c.g, 0, none⟩), .slice a n cap] w (PutQ c v (bs ++ catN n (fun i => vTx (var i).b)) w) := by
 have H0 := iH h
 have HR := iH hR
 have HXX := iH hXX
 have HLN : Hd (∀ k, k < n → (bs ++ catN k (fun i => vTx (var i).b)).length ≤ 900000 + 16 * 8) := fun k hk => by
  rw [List.length_append]
  have h1 := catN_most (n := k) (f := (fun i => vTx (var i).b)) (m := 16) (fun i hi => by have := vTx_len (hXX i (by omega)).2; omega)
  omega
 clear h hR hm hXX
 go_in
 go_wp2_with fail
 go_loopw [8] (fun i wr => ∃ (k : Nat) (v' : Value), k ≤ n ∧ i = .int .i64 k ∧ Hd (WQ c wr v' (bs ++ catN k (fun i => vTx (var i).b))) ∧ Hd (KQ c.g v w v' wr)) (fun i _ => n - (intOf i).toNat)
 case atStart => exact ⟨0, v, nZ, rfl, (show Hd (WQ c _ v (bs ++ [])) by rw [List.append_nil]; exact H0), KQ.of_below brf⟩
 clear H0
 obtain ⟨k, v', hk, rfl, HQr, HKr⟩ := hrel
 by_cases hlk : k < n
 rotate_left
 · obtain rfl : k = n := by omega
   have hlkz : ¬ (k : Int) < (k : Int) := by omega
   go_wp2
   go_end0
   exact ⟨v', rfl, HQr.o, HKr.o⟩
 have hlkz : (k : Int) < (n : Int) := by omega
 obtain ⟨b, off, rfl, _, hlt, hck⟩ := HR.o.resolve_left (by omega)
 have hlen := HLN.o k hlk
 have HSU : Hd (bs ++ catN (k + 1) (fun i => vTx (var i).b) = (bs ++ catN k (fun i => vTx (var i).b)) ++ vTx (var k).b) := (show bs ++ (catN k _ ++ vTx (var k).b) = _ by rw [List.append_assoc])
 have HXK := iH (HXX.o k hlk)
 generalize bs ++ catN k (fun i => vTx (var i).b) = us at *
 have cx := (HQr.o.bl.cell (p := ⟨b, off + k, none⟩) hlt).trans (by have h1 := hck k hlk 0 _ rfl; simpa using h1)
 clear hck
 go_wp2_with fail
 refine (variable_any c (var k) v' us _ HQr.o HXK.o.1 HXK.o.2 (by omega)).mono ?_
 rintro e z5 ⟨v5, rfl, hQ5, hK5⟩
 have HQ5 : Hd (WQ c z5 v5 (bs ++ catN (k + 1) (fun i => vTx (var i).b))) := (show WQ _ _ _ _ by rw [HSU.o]; exact hQ5)
 have HK5 := iH (HKr.o.trans hK5)
 clear hQ5 hK5 cx HQr HKr
 go_wp2
 go_roundw
 case rel => exact ⟨k + 1, v5, by omega, by go_num, HQ5, HK5⟩
 case measure => simp [intOf]; omega
theorem keys_any (c : WC) (a : Option Addr) (cap n : Nat) (key : Nat → KY) (v : Value) (bs : List Int) (w : World) (h : WQ c w v bs) (hn2 : n ≤ 8) (hR : KRow 0 c.w0 2 a n (fun i => (key i).cells)) (hXX : ∀ i, i < n → BsF 0 c.w0 (key i).v ∧ nameOk (key i).v.b = true) (hm : bs.length ≤ 900000) :
 Calls Tryz.prog 179 #[.pointer (some ⟨c.g, 0, none⟩), .slice a n cap] w (PutQ c v (bs ++ catN n (fun i => keyTx (key i))) w) := by
 have H0 := iH h
 have HR := iH hR
 have HXX := iH hXX
 have HLN : Hd (∀ k, k < n → (bs ++ catN k (fun i => keyTx (key i))).length ≤ 900000 + 16 * 8) := fun k hk => by
  rw [List.length_append]
  have h1 := catN_most (n := k) (f := (fun i => keyTx (key i))) (m := 16) (fun i hi => by have := vTx_len (hXX i (by omega)).2; have := key_len (k := key i) (hXX i (by omega)).2; omega)
  omega
 clear h hR hm hXX
 go_in
 go_wp2_with fail
 go_loopw [8] (fun i wr => ∃ (k : Nat) (v' : Value), k ≤ n ∧ i = .int .i64 k ∧ Hd (WQ c wr v' (bs ++ catN k (fun i => keyTx (key i)))) ∧ Hd (KQ c.g v w v' wr)) (fun i _ => n - (intOf i).toNat)
 case atStart => exact ⟨0, v, nZ, rfl, (show Hd (WQ c _ v (bs ++ [])) by rw [List.append_nil]; exact H0), KQ.of_below brf⟩
 clear H0
 obtain ⟨k, v', hk, rfl, HQr, HKr⟩ := hrel
 by_cases hlk : k < n
 rotate_left
 · obtain rfl : k = n := by omega
   have hlkz : ¬ (k : Int) < (k : Int) := by omega
   go_wp2
   go_end0
   exact ⟨v', rfl, HQr.o, HKr.o⟩
 have hlkz : (k : Int) < (n : Int) := by omega
 obtain ⟨b, off, rfl, _, hlt, hck⟩ := HR.o.resolve_left (by omega)
 have hlen := HLN.o k hlk
 have HSU : Hd (bs ++ catN (k + 1) (fun i => keyTx (key i)) = (bs ++ catN k (fun i => keyTx (key i))) ++ keyTx (key k)) := (show bs ++ (catN k _ ++ keyTx (key k)) = _ by rw [List.append_assoc])
 have HXK := iH (HXX.o k hlk)
 generalize bs ++ catN k (fun i => keyTx (key i)) = us at *
 have hcx : wr.rangeAt b (off + k * 2) [.slice (key k).v.a (key k).v.len (key k).v.cap, .bool (key k).down] := fun i u hu => (HQr.o.bl.cell (p := ⟨b, off + k * 2 + i, none⟩) hlt).trans (hck k hlk i u hu)
 have HS0 := iH (WS.new HQr.o #[.slice (key k).v.a (key k).v.len (key k).v.cap, .bool (key k).down] 108)
 clear hck
 cases hd : (key k).down with
 | false =>
  have HKE : Hd (keyTx (key k) = vTx (key k).v.b) := (show keyTx _ = _ by unfold keyTx; rw [if_neg (by simp [hd])]; rfl)
  rw [hd] at hcx HS0
  clear hd
  go_wp2_with (with_reducible refine wpl_at ?_; refine ldr rfl rfl rfl Tryz.underlying108 hcx rfl ?_; try simp only [Act.put, sA, zA, cA])
  clear hcx
  refine (variable_any c (key k).v v' (us) _ HS0.o.wq HXK.o.1 HXK.o.2 (by (try simp only [lA, lC, lN]); omega)).mono ?_
  rintro e z5 ⟨v5, rfl, hQ5, hK5⟩
  have HQ5 : Hd (WQ c z5 v5 (bs ++ catN (k + 1) (fun i => keyTx (key i)))) := (show WQ _ _ _ _ by rw [HSU.o, HKE.o]; simpa using hQ5)
  have HK5 := iH (HKr.o.trans (HS0.o.kq.trans hK5))
  clear hQ5 hK5 HQr HKr HS0
  go_wp2
  go_roundw
  case rel => exact ⟨k + 1, v5, by omega, by go_num, HQ5, HK5⟩
  case measure => simp [intOf]; omega
 | true =>
  have HKE := iH (show keyTx _ = _ by unfold keyTx; rw [if_pos hd])
  rw [hd] at hcx HS0
  clear hd
  go_wp2_with (with_reducible refine wpl_at ?_; refine ldr rfl rfl rfl Tryz.underlying108 hcx rfl ?_; try simp only [Act.put, sA, zA, cA])
  clear hcx
  refine (put1h c ⟨#[45]⟩ v' us _ _ (by simp) HS0.o.wq (by decide) (by rw [show (ByteArray.mk #[45]).size = 1 from rfl]; omega)).mono ?_
  rintro e z1 ⟨v1, rfl, hQ1, hK1⟩
  have HS1 : Hd (WS c wr v' v1 (us ++ [45, 32]) [.slice (key k).v.a (key k).v.len (key k).v.cap, .bool true] z1) := HS0.o.step hQ1 hK1
  clear hQ1 hK1 HS0
  have y0 := HS1.o.bx.2 0 _ rfl
  go_wp2_with fail
  refine (variable_any c (key k).v v1 (us ++ [45, 32]) _ HS1.o.wq HXK.o.1 HXK.o.2 (by (try simp only [lA, lC, lN]); omega)).mono ?_
  rintro e z5 ⟨v5, rfl, hQ5, hK5⟩
  have HQ5 : Hd (WQ c z5 v5 (bs ++ catN (k + 1) (fun i => keyTx (key i)))) := (show WQ _ _ _ _ by rw [HSU.o, HKE.o]; simpa using hQ5)
  have HK5 := iH (HKr.o.trans (HS1.o.kq.trans hK5))
  clear hQ5 hK5 HQr HKr HS1
  go_wp2
  go_roundw
  case rel => exact ⟨k + 1, v5, by omega, by go_num, HQ5, HK5⟩
  case measure => simp [intOf]; omega
end Go.Proofs.YthljoojcpbignaaGreatDoor
