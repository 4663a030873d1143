import Derived.Test.YthljoojcpbignaaGreatDoorMk02
import Derived.Test.YthljoojcpbignaaGreatDoorMk01
import Derived.Deep.MidRow
namespace Go.Proofs.YthljoojcpbignaaGreatDoor
/- TreB -/
open Go.RowKit Go.Deep
set_option maxHeartbeats 40000000
set_option maxRecDepth 100000
def Sz (P : Prop) (e : Ending) : Prop := ∃ r : Int, e = .returned (.int .i64 r) ∧ (r = -1 ∨ 0 ≤ r ∧ r ≤ 1048576 ∧ P)
def Box (w : World) (b : Nat) (L : List Value) : Prop := b < w.heap.size ∧ ∀ c u, L[c]? = some u → w.cell? ⟨b, c, none⟩ = some u
theorem Box.new (w : World) (vs : Array Value) (t : TypeId) (fr : Nat × Nat) : Box (w.alloc (.cells vs t fr)) w.heap.size vs.toList := by
 refine ⟨by simp, fun c u hu => ?_⟩
 rw [Array.getElem?_toList] at hu
 have h : (w.alloc (.cells vs t fr)).heap[w.heap.size]? = some (.cells vs t fr) := by
   show (w.heap.push _)[w.heap.size]? = _
   rw [Array.getElem?_push]
   simp
 simp only [World.cell?, h]
 exact hu
theorem Box.below {w w' : World} {b : Nat} {L : List Value} (h : Box w b L) (hb : Bl w w') : Box w' b L := ⟨Nat.lt_of_lt_of_le h.1 hb.size, fun c u hu => (hb.cell (p := ⟨b, c, none⟩) h.1).trans (h.2 c u hu)⟩
theorem Box.range {w : World} {b : Nat} {L : List Value} (h : Box w b L) (c : Nat) (cs : List Value) (hcs : (L.drop c).take cs.length = cs) : w.rangeAt b c cs := by
 intro j v hv
 refine h.2 (c + j) v ?_
 rw [← hcs, List.getElem?_take] at hv
 split at hv
 · rwa [List.getElem?_drop] at hv
 cases hv
theorem szByteS_sz (x : SL) (l : Int) (w : World) (h1 : 0 ≤ l) (h2 : l ≤ 1048576) (h3 : x.len ≤ 9223372036854775807) :
   Calls Tryz.prog 49 #[.slice x.a x.len x.cap, .int .i64 l] w fun e w' => Sz (x.len ≤ 1048576) e ∧ Bl w w' := by
 refine (szByteS_any x.a _ _ l w h1 h2 h3).mono ?_
 rintro e w' ⟨rfl, rfl⟩
 refine ⟨⟨_, rfl, ?_⟩, Below.refl _ _⟩
 by_cases h : l < x.len
 · exact .inl (if_pos h)
 rw [if_neg h]
 exact .inr ⟨by omega, by omega, by omega⟩
theorem szTerm_sz (x : TB) (l : Int) (w : World) (h1 : 0 ≤ l) (h2 : l ≤ 1048576) (h3 : x.t.len ≤ 9223372036854775807) :
   Calls Tryz.prog 121 #[.agg #[.int .i64 x.t.k, .slice x.t.a x.t.len x.t.cap, .int .i64 x.t.n, .int .i64 x.t.s], .int .i64 l] w fun e w' => Sz (x.t.len ≤ 1048576) e ∧ Bl w w' := by
 refine (szTerm_any _ _ _ _ _ _ l w h1 h2 h3).mono ?_
 rintro e w' ⟨rfl, hb⟩
 refine ⟨⟨_, rfl, ?_⟩, hb⟩
 unfold leftOf
 by_cases h : l < x.t.len
 · exact .inl (if_pos h)
 rw [if_neg h]
 exact .inr ⟨by omega, by omega, by omega⟩
theorem szItem_any (x : IB) (l : Int) (w : World) (h1 : 0 ≤ l) (h2 : l ≤ 1048576) (hc : x.came w) :
   Calls Tryz.prog 120 #[.agg x.ar, .int .i64 l] w fun e w' => Sz x.small e ∧ Bl w w' := by
 have HZ1 := hid (fun (W : World) (l : Int) (h1 : 0 ≤ l) (h2 : l ≤ 1048576) (hb : Bl w W) => szByteS_sz x.v l W h1 h2 hc.1.1)
 have HZ2 := hid (fun (W : World) (l : Int) (h1 : 0 ≤ l) (h2 : l ≤ 1048576) (hb : Bl w W) => szTerm_sz x.t l W h1 h2 hc.2.1.1)
 clear hc
 go_in
 have Z1 := HZ1.out
 go_wp2_with fail
 refine (Z1 _ l h1 h2 (bl_a _)).mono ?_
 rintro e w1 ⟨⟨r1, rfl, hr1⟩, hb1⟩
 have HX1 := hid ((Box.new w _ 80 _).below hb1)
 have HB1 := hid (bl_trans (bl_a _) hb1)
 clear hb1 Z1 
 rcases hr1 with rfl | ⟨p1, q1, s1⟩
 · go_wp2_with fail
   go_ret
   exact ⟨⟨-1, rfl, .inl rfl⟩, HB1.out⟩
 have n1 : ¬ r1 < 0 := by omega
 have HS1 := hid s1
 clear s1
 have ld : w1.rangeAt w.heap.size 1 [.int .i64 x.t.t.k, .slice x.t.t.a x.t.t.len x.t.t.cap, .int .i64 x.t.t.n, .int .i64 x.t.t.s] := HX1.out.range 1 _ rfl
 have Z2 := HZ2.out
 go_wp2_with (refine wpList_load_mid rfl 78 _ rfl w.heap.size 1 rfl [.int .i64 x.t.t.k, .slice x.t.t.a x.t.t.len x.t.t.cap, .int .i64 x.t.t.n, .int .i64 x.t.t.s] _ ld Tryz.underlying78 rfl (by kernel_rfl) ?_; try simp only [Act.put, sA, zA, cA])
 refine (Z2 _ r1 p1 q1 HB1.out).mono ?_
 rintro e w2 ⟨⟨r2, rfl, hr2⟩, hb2⟩
 have HX2 := hid (HX1.out.below hb2)
 have HB2 := hid (bl_trans HB1.out hb2)
 clear hb2 Z2 ld HX1 HB1
 rcases hr2 with rfl | ⟨p2, q2, s2⟩
 · go_wp2_with fail
   go_ret
   exact ⟨⟨-1, rfl, .inl rfl⟩, HB2.out⟩
 have n2 : ¬ r2 < 0 := by omega
 have HS2 := hid s2
 clear s2
 go_wp2_with fail
 go_ret
 exact ⟨⟨r2, rfl, .inr ⟨p2, q2, HS1.out, HS2.out⟩⟩, HB2.out⟩
theorem szPat_any (x : PB) (l : Int) (w : World) (h1 : 0 ≤ l) (h2 : l ≤ 1048576) (hc : x.came w) :
   Calls Tryz.prog 81 #[.agg x.ar, .int .i64 l] w fun e w' => Sz x.small e ∧ Bl w w' := by
 have HZ1 := hid (fun (W : World) (l : Int) (h1 : 0 ≤ l) (h2 : l ≤ 1048576) (hb : Below _ w W) => szItem_any x.s l W h1 h2 (hc.1.below hb))
 have HZ2 := hid (fun (W : World) (l : Int) (h1 : 0 ≤ l) (h2 : l ≤ 1048576) (hb : Below _ w W) => szItem_any x.p l W h1 h2 (hc.2.1.below hb))
 have HZ3 := hid (fun (W : World) (l : Int) (h1 : 0 ≤ l) (h2 : l ≤ 1048576) (hb : Below _ w W) => szItem_any x.o l W h1 h2 (hc.2.2.below hb))
 clear hc
 go_in
 have Z1 := HZ1.out
 go_wp2_with fail
 refine (Z1 _ l h1 h2 (bl_a _)).mono ?_
 rintro e w1 ⟨⟨r1, rfl, hr1⟩, hb1⟩
 have HX1 := hid ((Box.new w _ 82 _).below hb1)
 have HB1 := hid (bl_trans (bl_a _) hb1)
 clear hb1 Z1 
 rcases hr1 with rfl | ⟨p1, q1, s1⟩
 · go_wp2_with fail
   go_ret
   exact ⟨⟨-1, rfl, .inl rfl⟩, HB1.out⟩
 have n1 : ¬ r1 < 0 := by omega
 have HS1 := hid s1
 clear s1
 have ld : w1.rangeAt w.heap.size 5 x.p.cl := HX1.out.range 5 _ rfl
 have Z2 := HZ2.out
 go_wp2_with (refine wpList_load_mid rfl 80 _ rfl w.heap.size 5 rfl x.p.cl _ ld Tryz.underlying80 rfl (by kernel_rfl) ?_; try simp only [Act.put, sA, zA, cA])
 refine (Z2 _ r1 p1 q1 HB1.out).mono ?_
 rintro e w2 ⟨⟨r2, rfl, hr2⟩, hb2⟩
 have HX2 := hid (HX1.out.below hb2)
 have HB2 := hid (bl_trans HB1.out hb2)
 clear hb2 Z2 ld HX1 HB1
 rcases hr2 with rfl | ⟨p2, q2, s2⟩
 · go_wp2_with fail
   go_ret
   exact ⟨⟨-1, rfl, .inl rfl⟩, HB2.out⟩
 have n2 : ¬ r2 < 0 := by omega
 have HS2 := hid s2
 clear s2
 have ld : w2.rangeAt w.heap.size 10 x.o.cl := HX2.out.range 10 _ rfl
 have Z3 := HZ3.out
 go_wp2_with (refine wpList_load_mid rfl 80 _ rfl w.heap.size 10 rfl x.o.cl _ ld Tryz.underlying80 rfl (by kernel_rfl) ?_; try simp only [Act.put, sA, zA, cA])
 refine (Z3 _ r2 p2 q2 HB2.out).mono ?_
 rintro e w3 ⟨⟨r3, rfl, hr3⟩, hb3⟩
 have HX3 := hid (HX2.out.below hb3)
 have HB3 := hid (bl_trans HB2.out hb3)
 clear hb3 Z3 ld HX2 HB2
 rcases hr3 with rfl | ⟨p3, q3, s3⟩
 · go_wp2_with fail
   go_ret
   exact ⟨⟨-1, rfl, .inl rfl⟩, HB3.out⟩
 have n3 : ¬ r3 < 0 := by omega
 have HS3 := hid s3
 clear s3
 go_wp2_with fail
 go_ret
 exact ⟨⟨r3, rfl, .inr ⟨p3, q3, HS1.out, HS2.out, HS3.out⟩⟩, HB3.out⟩
theorem szExprS_of (a : Option Addr) (cap n : Nat) (kid : Nat → ET) (l : Int) (w : World) (h1 : 0 ≤ l) (h2 : l ≤ 1048576) (hn : n ≤ 9223372036854775807) (hR : KRow 0 w 8 a n (fun i => (kid i).d.cells))
   (IH : ∀ i, i < n → ∀ (W : World) (l : Int), 0 ≤ l → l ≤ 1048576 → Bl w W → Calls Tryz.prog 82 #[.agg (kid i).d.ar, .int .i64 l] W fun e w' => Sz (kid i).small e ∧ Bl W w') :
   Calls Tryz.prog 122 #[.slice a n cap, .int .i64 l] w fun e w' => Sz (n ≤ 1048576 ∧ ∀ i, i < n → (kid i).small) e ∧ Bl w w' := by
 try unfold EN.ar
 by_cases hbig : l < n
 · clear hR IH
   go_in
   go_wp2
   go_ret
   exact ⟨⟨-1, rfl, .inl rfl⟩, Below.refl _ _⟩
 by_cases hn0 : n = 0
 · subst hn0
   clear hR IH hn hbig
   have hbig : ¬ l < 0 := by omega
   go_in
   go_wp2
   refine wp_loop_rounds 1 ?_
   rw [rounds_succ]
   go_wp2
   go_ret
   exact ⟨⟨_, rfl, .inr ⟨by omega, by omega, by omega, fun i hi => absurd hi (Nat.not_lt_zero _)⟩⟩, Below.refl _ _⟩
 obtain ⟨b, off, rfl, _, hlt, hc⟩ := hR.resolve_left hn0
 have HC := hid hc
 have HI := hid IH
 clear hR hc IH
 go_in
 go_wp2
 go_loopw [1, 5] (fun x i wr => ∃ (k : Nat) (r : Int), k ≤ n ∧ i = .int .i64 k ∧ x = .int .i64 r ∧ 0 ≤ r ∧ r ≤ 1048576 ∧ Hid (Bl w wr) ∧ Hid (∀ j, j < k → (kid j).small))
   (fun _ i _ => n - (intOf i).toNat)
 case atStart => exact ⟨0, _, Nat.zero_le _, rfl, rfl, by omega, by omega, Below.refl _ _, fun j hj => absurd hj (Nat.not_lt_zero _)⟩
 obtain ⟨k, r, hk, rfl, rfl, hr0, hr1, HB, HH⟩ := hrel
 by_cases hlk : k < n
 · have hcx := fun c u (hu : ((kid k).d.cells)[c]? = some u) => (HB.out.cell (p := ⟨b, off + k * 8 + c, none⟩) hlt).trans (HC.out k hlk c u hu)
   have hin : (Tryz.prog.info? 85).map (·.size) = some 8 := by kernel_rfl
   have Z := HI.out k hlk
   go_wp2_with (refine wpList_load_mid rfl 85 _ rfl b (off + k * 8) rfl (kid k).d.cl _ hcx Tryz.underlying85 rfl hin ?_; try simp only [Act.put, sA, zA, cA])
   refine (Z _ r hr0 hr1 HB.out).mono ?_
   rintro e w2 ⟨⟨q, rfl, hq⟩, hb2⟩
   have HB2 := hid (bl_trans HB.out hb2)
   clear hcx hin Z hb2 HB
   rcases hq with rfl | ⟨z1, z2, z3⟩
   · go_wp2
     go_ret
     exact ⟨⟨-1, rfl, .inl rfl⟩, HB2.out⟩
   have HZ3 := hid z3
   have nq : ¬ q < 0 := by omega
   clear z3
   go_wp2
   go_roundw
   case rel =>
     refine ⟨k + 1, q, by omega, by go_num, rfl, by omega, by omega, HB2, fun j hj => ?_⟩
     by_cases e : j = k
     · subst e
       exact HZ3.out
     exact HH.out j (by omega)
   case measure => simp [intOf]; omega
 obtain rfl : k = n := by omega
 go_wp2
 go_ret
 exact ⟨⟨r, rfl, .inr ⟨hr0, hr1, by omega, HH.out⟩⟩, HB.out⟩
theorem szExpr_any (e : ET) : ∀ (l : Int) (w : World), 0 ≤ l → l ≤ 1048576 → e.came w → Calls Tryz.prog 82 #[.agg e.d.ar, .int .i64 l] w fun r w' => Sz e.small r ∧ Bl w w' := by
 induction e with
 | nil => exact fun _ _ _ _ h => False.elim h
 | mk d kid ih =>
   intro l w h1 h2 hc
   show Calls Tryz.prog 82 #[.agg #[.int .i64 d.k, .int .i64 d.op, .slice d.v.a d.v.len d.v.cap, .int .i64 d.t.t.k, .slice d.t.t.a d.t.t.len d.t.t.cap, .int .i64 d.t.t.n, .int .i64 d.t.t.s, .slice d.ka d.n d.kc], .int .i64 l] w fun r w' => Sz (d.v.len ≤ 1048576 ∧ d.t.t.len ≤ 1048576 ∧ d.n ≤ 1048576 ∧ ∀ i, i < d.n → (kid i).small) r ∧ Bl w w'
   obtain ⟨hv, ht, _, hn, hR, hk⟩ := hc
   have HZ1 := hid (fun (W : World) (l : Int) (h1 : 0 ≤ l) (h2 : l ≤ 1048576) (hb : Bl w W) => szByteS_sz d.v l W h1 h2 hv.1)
   have HZ2 := hid (fun (W : World) (l : Int) (h1 : 0 ≤ l) (h2 : l ≤ 1048576) (hb : Bl w W) => szTerm_sz d.t l W h1 h2 ht.1)
   have HZ3 := hid (fun (W : World) (l : Int) (h1 : 0 ≤ l) (h2 : l ≤ 1048576) (hb : Below _ w W) => szExprS_of _ d.kc d.n kid l W h1 h2 hn (hR.upper (uB hb)) fun i hi W' l' a1 a2 hW => ih i l' W' a1 a2 (ET.came.below (bl_trans hb hW) (hk i hi)))
   clear hv ht hR hk ih hn
   go_in
   have Z1 := HZ1.out
   go_wp2_with fail
   refine (Z1 _ l h1 h2 (bl_a _)).mono ?_
   rintro e w1 ⟨⟨r1, rfl, hr1⟩, hb1⟩
   have HX1 := hid ((Box.new w _ 85 _).below hb1)
   have HB1 := hid (bl_trans (bl_a _) hb1)
   clear hb1 Z1 
   rcases hr1 with rfl | ⟨p1, q1, s1⟩
   · go_wp2_with fail
     go_ret
     exact ⟨⟨-1, rfl, .inl rfl⟩, HB1.out⟩
   have n1 : ¬ r1 < 0 := by omega
   have HS1 := hid s1
   clear s1
   have ld : w1.rangeAt w.heap.size 3 [.int .i64 d.t.t.k, .slice d.t.t.a d.t.t.len d.t.t.cap, .int .i64 d.t.t.n, .int .i64 d.t.t.s] := HX1.out.range 3 _ rfl
   have Z2 := HZ2.out
   go_wp2_with (refine wpList_load_mid rfl 78 _ rfl w.heap.size 3 rfl [.int .i64 d.t.t.k, .slice d.t.t.a d.t.t.len d.t.t.cap, .int .i64 d.t.t.n, .int .i64 d.t.t.s] _ ld Tryz.underlying78 rfl (by kernel_rfl) ?_; try simp only [Act.put, sA, zA, cA])
   refine (Z2 _ r1 p1 q1 HB1.out).mono ?_
   rintro e w2 ⟨⟨r2, rfl, hr2⟩, hb2⟩
   have HX2 := hid (HX1.out.below hb2)
   have HB2 := hid (bl_trans HB1.out hb2)
   clear hb2 Z2 ld HX1 HB1
   rcases hr2 with rfl | ⟨p2, q2, s2⟩
   · go_wp2_with fail
     go_ret
     exact ⟨⟨-1, rfl, .inl rfl⟩, HB2.out⟩
   have n2 : ¬ r2 < 0 := by omega
   have HS2 := hid s2
   clear s2
   have ld := HX2.out.2 7 _ rfl
   have Z3 := HZ3.out
   go_wp2_with fail
   refine (Z3 _ r2 p2 q2 HB2.out).mono ?_
   rintro e w3 ⟨⟨r3, rfl, hr3⟩, hb3⟩
   have HX3 := hid (HX2.out.below hb3)
   have HB3 := hid (bl_trans HB2.out hb3)
   clear hb3 Z3 ld HX2 HB2
   rcases hr3 with rfl | ⟨p3, q3, s3⟩
   · go_wp2_with fail
     go_ret
     exact ⟨⟨-1, rfl, .inl rfl⟩, HB3.out⟩
   have n3 : ¬ r3 < 0 := by omega
   have HS3 := hid s3
   clear s3
   go_wp2_with fail
   go_ret
   exact ⟨⟨r3, rfl, .inr ⟨p3, q3, HS1.out, HS2.out, HS3.out⟩⟩, HB3.out⟩
theorem szTermS_sz (a : Option Addr) (cap : Nat) (tb : List TB) (l : Int) (w : World) (h1 : 0 ≤ l) (h2 : l ≤ 1048576) (hc : TCm w a tb) :
   Calls Tryz.prog 83 #[.slice a tb.length cap, .int .i64 l] w fun e w' => Sz (tb.length ≤ 1048576 ∧ ∀ x ∈ tb, x.t.len ≤ 1048576) e ∧ Bl w w' := by
 obtain ⟨hR, hn, hl⟩ := hc
 obtain ⟨n, hnn⟩ : ∃ n, n = tb.length := ⟨_, rfl⟩
 have HN := hid hnn
 have HP : Hid (∀ k, k ≤ n → (∀ j x, j < k → tb[j]? = some x → x.t.len ≤ 1048576) → n ≤ 1048576 → k = n → tb.length ≤ 1048576 ∧ ∀ x ∈ tb, x.t.len ≤ 1048576) := fun k hk hh h2 e => ⟨by omega, fun x hx => by
   obtain ⟨j, hj, rfl⟩ := List.mem_iff_getElem.1 hx
   exact hh j _ (by omega) (List.getElem?_eq_getElem hj)⟩
 obtain ⟨P, hP⟩ : ∃ P, P = (tb.length ≤ 1048576 ∧ ∀ x ∈ tb, x.t.len ≤ 1048576) := ⟨_, rfl⟩
 rw [← hP] at HP
 rw [← hnn] at hn
 rw [← hP, ← hnn]
 by_cases hbig : l < n
 · clear hR hl
   go_in
   go_wp2
   go_ret
   exact ⟨⟨-1, rfl, .inl rfl⟩, Below.refl _ _⟩
 by_cases hn0 : n = 0
 · have ht : tb = [] := List.eq_nil_of_length_eq_zero (by omega)
   subst hn0
   have HP0 := hid (HP.out 0 (by omega) (fun j x hj => by omega) (by omega) rfl)
   clear hR hl hnn HN hn hbig ht HP hP
   have hbig : ¬ l < 0 := by omega
   go_in
   go_wp2
   refine wp_loop_rounds 1 ?_
   rw [rounds_succ]
   go_wp2
   go_ret
   exact ⟨⟨_, rfl, .inr ⟨by omega, by omega, HP0.out⟩⟩, Below.refl _ _⟩
 have ht0 : tb ≠ [] := by
   intro e
   rw [e] at hnn
   exact hn0 (by simpa using hnn)
 obtain ⟨b, off, rfl, hlt, hc⟩ := hR.resolve_left ht0
 have HC := hid hc
 have HL : Hid (∀ x ∈ tb, x.t.len ≤ 9223372036854775807) := fun x hx => (hl x hx).1.1
 clear hR hl hc hnn ht0 hP
 go_in
 go_wp2
 go_loopw [1, 5] (fun x i wr => ∃ (k : Nat) (r : Int), k ≤ n ∧ i = .int .i64 k ∧ x = .int .i64 r ∧ 0 ≤ r ∧ r ≤ 1048576 ∧ Hid (Bl w wr) ∧ Hid (∀ j x, j < k → tb[j]? = some x → x.t.len ≤ 1048576))
   (fun _ i _ => n - (intOf i).toNat)
 case atStart => exact ⟨0, _, Nat.zero_le _, rfl, rfl, by omega, by omega, Below.refl _ _, fun j x hj => by omega⟩
 obtain ⟨k, r, hk, rfl, rfl, hr0, hr1, HB, HH⟩ := hrel
 by_cases hlk : k < n
 · have hkl : k < tb.length := by rw [← HN.out]; exact hlk
   obtain ⟨x, hx⟩ : ∃ x, x = tb[k] := ⟨_, rfl⟩
   have HX := hid (show tb[k]? = some x by rw [hx]; exact List.getElem?_eq_getElem hkl)
   have hcx := TRow.at (l := tb) (b := b) (off := off) (w := wr) (fun j u hu => (HB.out.cell (p := ⟨b, off + j, none⟩) hlt).trans (HC.out j u hu)) k hkl
   rw [← hx] at hcx
   obtain ⟨x0, x1, x2, x3⟩ := hcx
   have Z := fun w => szTerm_sz x r w hr0 hr1 (HL.out x (List.mem_of_getElem? HX.out))
   clear hx hkl
   go_wp2_with fail
   refine (Z _).mono ?_
   rintro e w2 ⟨⟨q, rfl, hq⟩, hb2⟩
   have HB2 := hid (bl_trans HB.out hb2)
   clear x0 x1 x2 x3 Z hb2 HB
   rcases hq with rfl | ⟨z1, z2, z3⟩
   · go_wp2
     go_ret
     exact ⟨⟨-1, rfl, .inl rfl⟩, HB2.out⟩
   have HZ1 := hid z3
   have nq : ¬ q < 0 := by omega
   clear z3
   go_wp2
   go_roundw
   case rel =>
     refine ⟨k + 1, q, by omega, by go_num, rfl, by omega, by omega, HB2, fun j y hj hy => ?_⟩
     by_cases e : j = k
     · subst e
       rw [HX.out] at hy
       cases hy
       exact HZ1.out
     exact HH.out j y (by omega) hy
   case measure => simp [intOf]; omega
 obtain rfl : k = n := by omega
 go_wp2
 go_ret
 exact ⟨⟨r, rfl, .inr ⟨hr0, hr1, HP.out k (by omega) HH.out (by omega) rfl⟩⟩, HB.out⟩
/- TbA -/
structure CB where
 has : Bool
 t : TB
def CB.cells (x : CB) : List Value := [.bool x.has, .int .i64 x.t.t.k, .slice x.t.t.a x.t.t.len x.t.t.cap, .int .i64 x.t.t.n, .int .i64 x.t.t.s]
def CB.lies (B : Nat) (w : World) (x : CB) : Prop := BsF B w x.t.sl ∧ x.t.t.fits
def CB.came (w : World) (x : CB) : Prop := Cm w x.t.sl ∧ x.t.t.fits
def CB.small (x : CB) : Prop := x.t.t.len ≤ 1048576
def CB.same (x y : CB) : Prop := x.has = y.has ∧ x.t.td = y.t.td
theorem CB.lies.upper {B : Nat} {w w' : World} {x : CB} (h : x.lies B w) (hu : Upper B w w') : x.lies B w' := ⟨h.1.upper hu, h.2⟩
theorem CB.lies.base {B B' : Nat} {w : World} {x : CB} (h : x.lies B w) (hB : B' ≤ B) : x.lies B' w := ⟨h.1.base hB, h.2⟩
theorem CB.came.below {w w' : World} {x : CB} (h : x.came w) (hb : Bl w w') : x.came w' := ⟨h.1.below hb, h.2⟩
theorem CB.came.lies {w : World} {x : CB} (h : x.came w) (hs : x.small) : x.lies 0 w := ⟨h.1.bs hs, h.2⟩
structure SO where
 a : Option Addr
 cap : Nat
 n : Nat
 cel : Nat → CB
def SO.cells (x : SO) : List Value := [.slice x.a x.n x.cap]
def SO.lies (B : Nat) (w : World) (x : SO) : Prop := KRow B w 5 x.a x.n (fun i => (x.cel i).cells) ∧ (∀ i, i < x.n → (x.cel i).lies B w) ∧ x.n ≤ 1048576
def SO.came (w : World) (x : SO) : Prop := KRow 0 w 5 x.a x.n (fun i => (x.cel i).cells) ∧ (∀ i, i < x.n → (x.cel i).came w) ∧ x.n ≤ 9223372036854775807
def SO.small (x : SO) : Prop := x.n ≤ 1048576 ∧ ∀ i, i < x.n → (x.cel i).small
def SO.same (x y : SO) : Prop := x.n = y.n ∧ ∀ i, i < x.n → (x.cel i).same (y.cel i)
theorem SO.lies.upper {B : Nat} {w w' : World} {x : SO} (h : x.lies B w) (hu : Upper B w w') : x.lies B w' := ⟨h.1.upper hu, fun i hi => (h.2.1 i hi).upper hu, h.2.2⟩
theorem SO.lies.base {B B' : Nat} {w : World} {x : SO} (h : x.lies B w) (hB : B' ≤ B) : x.lies B' w := ⟨h.1.base hB, fun i hi => (h.2.1 i hi).base hB, h.2.2⟩
theorem SO.came.below {w w' : World} {x : SO} (h : x.came w) (hb : Bl w w') : x.came w' := ⟨h.1.upper (uB hb), fun i hi => (h.2.1 i hi).below hb, h.2.2⟩
theorem SO.came.lies {w : World} {x : SO} (h : x.came w) (hs : x.small) : x.lies 0 w := ⟨h.1, fun i hi => (h.2.1 i hi).lies (hs.2 i hi), hs.1⟩
def SL.lies (B : Nat) (w : World) (x : SL) : Prop := BsF B w x
def SL.came (w : World) (x : SL) : Prop := Cm w x
def SL.small (x : SL) : Prop := x.len ≤ 1048576
def SL.same (x y : SL) : Prop := x.b = y.b
def SL.cells (x : SL) : List Value := [.slice x.a x.len x.cap]
theorem SL.lies.upper {B : Nat} {w w' : World} {x : SL} (h : x.lies B w) (hu : Upper B w w') : x.lies B w' := BsF.upper h hu
theorem SL.lies.base {B B' : Nat} {w : World} {x : SL} (h : x.lies B w) (hB : B' ≤ B) : x.lies B' w := BsF.base h hB
structure TL where
 va : Option Addr
 vc : Nat
 vn : Nat
 var : Nat → SL
 ra : Option Addr
 rc : Nat
 rn : Nat
 row : Nat → SO
def TL.cells (x : TL) : List Value := [.slice x.va x.vn x.vc, .slice x.ra x.rn x.rc]
def TL.lies (B : Nat) (w : World) (x : TL) : Prop := KRow B w 1 x.va x.vn (fun i => (x.var i).cells) ∧ (∀ i, i < x.vn → (x.var i).lies B w) ∧ x.vn ≤ 1048576 ∧ KRow B w 1 x.ra x.rn (fun i => (x.row i).cells) ∧ (∀ i, i < x.rn → (x.row i).lies B w) ∧ x.rn ≤ 1048576
def TL.came (w : World) (x : TL) : Prop := KRow 0 w 1 x.va x.vn (fun i => (x.var i).cells) ∧ (∀ i, i < x.vn → (x.var i).came w) ∧ x.vn ≤ 9223372036854775807 ∧ KRow 0 w 1 x.ra x.rn (fun i => (x.row i).cells) ∧ (∀ i, i < x.rn → (x.row i).came w) ∧ x.rn ≤ 9223372036854775807
def TL.small (x : TL) : Prop := (x.vn ≤ 1048576 ∧ ∀ i, i < x.vn → (x.var i).small) ∧ x.rn ≤ 1048576 ∧ ∀ i, i < x.rn → (x.row i).small
def TL.same (x y : TL) : Prop := x.vn = y.vn ∧ (∀ i, i < x.vn → (x.var i).same (y.var i)) ∧ x.rn = y.rn ∧ ∀ i, i < x.rn → (x.row i).same (y.row i)
theorem TL.lies.upper {B : Nat} {w w' : World} {x : TL} (h : x.lies B w) (hu : Upper B w w') : x.lies B w' := ⟨h.1.upper hu, fun i hi => (h.2.1 i hi).upper hu, h.2.2.1, h.2.2.2.1.upper hu, fun i hi => (h.2.2.2.2.1 i hi).upper hu, h.2.2.2.2.2⟩
theorem TL.lies.base {B B' : Nat} {w : World} {x : TL} (h : x.lies B w) (hB : B' ≤ B) : x.lies B' w := ⟨h.1.base hB, fun i hi => (h.2.1 i hi).base hB, h.2.2.1, h.2.2.2.1.base hB, fun i hi => (h.2.2.2.2.1 i hi).base hB, h.2.2.2.2.2⟩
theorem TL.came.below {w w' : World} {x : TL} (h : x.came w) (hb : Bl w w') : x.came w' := ⟨h.1.upper (uB hb), fun i hi => Cm.below (h.2.1 i hi) hb, h.2.2.1, h.2.2.2.1.upper (uB hb), fun i hi => (h.2.2.2.2.1 i hi).below hb, h.2.2.2.2.2⟩
theorem TL.came.lies {w : World} {x : TL} (h : x.came w) (hs : x.small) : x.lies 0 w := ⟨h.1, fun i hi => Cm.bs (h.2.1 i hi) (hs.1.2 i hi), hs.1.1, h.2.2.2.1, fun i hi => (h.2.2.2.2.1 i hi).lies (hs.2.2 i hi), hs.2.1⟩
theorem szByteSS_of (a : Option Addr) (cap n : Nat) (kid : Nat → SL) (l : Int) (w : World) (h1 : 0 ≤ l) (h2 : l ≤ 1048576) (hn : n ≤ 9223372036854775807) (hR : KRow 0 w 1 a n (fun i => (kid i).cells))
   (IH : ∀ i, i < n → ∀ (W : World) (l : Int), 0 ≤ l → l ≤ 1048576 → Bl w W → Calls Tryz.prog 49 #[.slice (kid i).a (kid i).len (kid i).cap, .int .i64 l] W fun e w' => Sz (kid i).small e ∧ Bl W w') :
   Calls Tryz.prog 24 #[.slice a n cap, .int .i64 l] w fun e w' => Sz (n ≤ 1048576 ∧ ∀ i, i < n → (kid i).small) e ∧ Bl w w' := by
 by_cases hbig : l < n
 · clear hR IH
   go_in
   go_wp2
   go_ret
   exact ⟨⟨-1, rfl, .inl rfl⟩, Below.refl _ _⟩
 by_cases hn0 : n = 0
 · subst hn0
   clear hR IH hn hbig
   have hbig : ¬ l < 0 := by omega
   go_in
   go_wp2
   refine wp_loop_rounds 1 ?_
   rw [rounds_succ]
   go_wp2
   go_ret
   exact ⟨⟨_, rfl, .inr ⟨by omega, by omega, by omega, fun i hi => absurd hi (Nat.not_lt_zero _)⟩⟩, Below.refl _ _⟩
 obtain ⟨b, off, rfl, _, hlt, hc⟩ := hR.resolve_left hn0
 have HC := hid (fun i (hi : i < n) c u (hu : ((kid i).cells)[c]? = some u) => (by have h := hc i hi c u hu; rwa [Nat.mul_one] at h))
 have HI := hid IH
 clear hR hc IH
 go_in
 go_wp2
 go_loopw [1, 5] (fun x i wr => ∃ (k : Nat) (r : Int), k ≤ n ∧ i = .int .i64 k ∧ x = .int .i64 r ∧ 0 ≤ r ∧ r ≤ 1048576 ∧ Hid (Bl w wr) ∧ Hid (∀ j, j < k → (kid j).small))
   (fun _ i _ => n - (intOf i).toNat)
 case atStart => exact ⟨0, _, Nat.zero_le _, rfl, rfl, by omega, by omega, Below.refl _ _, fun j hj => absurd hj (Nat.not_lt_zero _)⟩
 obtain ⟨k, r, hk, rfl, rfl, hr0, hr1, HB, HH⟩ := hrel
 by_cases hlk : k < n
 · have hcx := fun c u (hu : ((kid k).cells)[c]? = some u) => (HB.out.cell (p := ⟨b, off + k + c, none⟩) hlt).trans (HC.out k hlk c u hu)
   have hc0 : wr.cell? ⟨b, off + k, none⟩ = some (.slice (kid k).a (kid k).len (kid k).cap) := by have h := hcx 0 _ rfl; simpa using h
   have Z := HI.out k hlk
   go_wp2_with fail
   refine (Z _ r hr0 hr1 HB.out).mono ?_
   rintro e w2 ⟨⟨q, rfl, hq⟩, hb2⟩
   have HB2 := hid (bl_trans HB.out hb2)
   clear hcx hc0 Z hb2 HB
   rcases hq with rfl | ⟨z1, z2, z3⟩
   · go_wp2
     go_ret
     exact ⟨⟨-1, rfl, .inl rfl⟩, HB2.out⟩
   have HZ3 := hid z3
   have nq : ¬ q < 0 := by omega
   clear z3
   go_wp2
   go_roundw
   case rel =>
     refine ⟨k + 1, q, by omega, by go_num, rfl, by omega, by omega, HB2, fun j hj => ?_⟩
     by_cases e : j = k
     · subst e
       exact HZ3.out
     exact HH.out j (by omega)
   case measure => simp [intOf]; omega
 obtain rfl : k = n := by omega
 go_wp2
 go_ret
 exact ⟨⟨r, rfl, .inr ⟨hr0, hr1, by omega, HH.out⟩⟩, HB.out⟩
end Go.Proofs.YthljoojcpbignaaGreatDoor
