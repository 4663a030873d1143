import Derived.Test.YthljoojcpbignaaGreatDoorMk06
namespace Go.Proofs.YthljoojcpbignaaGreatDoor
open Go.RowKit Go.Deep
set_option maxHeartbeats 40000000
set_option maxRecDepth 100000
def Sw (l : Int) (n : Nat) (e : Ending) : Prop := ∃ r : Int, e = .returned (.int .i64 r) ∧ (r = -1 ∨ 0 ≤ r ∧ r ≤ 1048576 ∧ r + (n : Int) ≤ l)
def IB.wt (x : IB) : Nat := x.v.len + x.t.t.len
def PB.wt (x : PB) : Nat := x.s.wt + x.p.wt + x.o.wt
def ET.wt : ET → Nat
 | .nil => 0
 | .mk d kid => d.v.len + d.t.t.len + (d.n + sumN d.n (fun i => (kid i).wt))
def twt (tb : List TB) (k : Nat) : Nat := sumN k (fun j => (tb[j]?.map (fun x => x.t.len)).getD 0)
def UT.wt : UT → Nat
 | .nil => 0
 | .mk d ka kb => d.p.wt + d.e.wt + d.v.len + (d.tb.length + twt d.tb d.tb.length) + (d.an + sumN d.an (fun i => (ka i).wt)) + (d.bn + sumN d.bn (fun i => (kb i).wt))
def SE.wt (x : SE) : Nat := x.of.len + x.v.len
def KY.wt (x : KY) : Nat := x.v.len
def SL.wt (x : SL) : Nat := x.len
def QY.wt (x : QY) : Nat := (x.sn + sumN x.sn (fun i => (x.sel i).wt)) + (x.bn + sumN x.bn (fun i => (x.body i).wt)) + (x.gn + sumN x.gn (fun i => (x.grp i).wt)) + (x.on + sumN x.on (fun i => (x.key i).wt))
theorem szByteS_w (x : SL) (l : Int) (w : World) (h1 : 0 ≤ l) (h2 : l ≤ 1048576) (h3 : x.len ≤ 9223372036854775807) :
 Calls Tryz.prog 49 #[.slice x.a x.len x.cap, .int .i64 l] w fun e w' => Sw l x.wt e ∧ Bl w w' := by
 refine (szByteS_any x.a x.len x.cap l w h1 h2 h3).mono ?_
 rintro e w' ⟨rfl, rfl⟩
 refine ⟨⟨_, rfl, ?_⟩, Below.refl _ _⟩
 unfold SL.wt
 by_cases h : l < x.len
 · exact .inl (if_pos h)
 rw [if_neg h]
 exact .inr ⟨by omega, by omega, by omega⟩
theorem szTerm_w (x : TB) (l : Int) (w : World) (h1 : 0 ≤ l) (h2 : l ≤ 1048576) (h3 : x.t.len ≤ 9223372036854775807) :
 Calls Tryz.prog 121 #[.agg #[.int .i64 x.t.k, .slice x.t.a x.t.len x.t.cap, .int .i64 x.t.n, .int .i64 x.t.s], .int .i64 l] w fun e w' => Sw l x.t.len e ∧ Bl w w' := by
 refine (szTerm_any x.t.k x.t.n x.t.s x.t.a x.t.len x.t.cap l w h1 h2 h3).mono ?_
 rintro e w' ⟨rfl, hb⟩
 refine ⟨⟨_, rfl, ?_⟩, hb⟩
 unfold leftOf
 by_cases h : l < x.t.len
 · exact .inl (if_pos h)
 rw [if_neg h]
 exact .inr ⟨by omega, by omega, by omega⟩
theorem szItem_w (x : IB) (l : Int) (w : World) (h1 : 0 ≤ l) (h2 : l ≤ 1048576) (hc : x.came w) :
 Calls Tryz.prog 120 #[.agg x.ar, .int .i64 l] w fun e w' => Sw l x.wt e ∧ Bl w w' := by
 have HZ1 : Hd (∀ (W : World) (l : Int), 0 ≤ l → l ≤ 1048576 → Bl w W → Cl 49 #[.slice x.v.a x.v.len x.v.cap, .int .i64 l] W fun e w' => Sw l (x.v.wt) e ∧ Bl W w') := fun W l h1 h2 hb => szByteS_w x.v l W h1 h2 hc.1.1
 have HZ2 : Hd (∀ (W : World) (l : Int), 0 ≤ l → l ≤ 1048576 → Bl w W → Cl 121 #[.agg #[.int .i64 x.t.t.k, .slice x.t.t.a x.t.t.len x.t.t.cap, .int .i64 x.t.t.n, .int .i64 x.t.t.s], .int .i64 l] W fun e w' => Sw l (x.t.t.len) e ∧ Bl W w') := fun W l h1 h2 hb => szTerm_w x.t l W h1 h2 hc.2.1.1
 clear hc
 go_in
 have Z1 := HZ1.o
 go_wp2_with fail
 refine (Z1 _ l h1 h2 (bl_a _)).mono ?_
 rintro e w1 ⟨⟨r1, rfl, hr1⟩, hb1⟩
 have HX1 : Hd (Box w1 w.heap.size x.cl) := (Box.new w x.ar 80 _).below hb1
 have HB1 := iH (bl_trans (bl_a _) hb1)
 clear hb1 Z1 
 rcases hr1 with rfl | ⟨p1, q1, s1⟩
 · go_wp2
   go_ret
   exact ⟨⟨-1, rfl, .inl rfl⟩, HB1.o⟩
 have n1 : ¬ r1 < 0 := by omega
 have HS1 := iH s1
 clear s1
 have ld : w1.rangeAt w.heap.size 1 [.int .i64 x.t.t.k, .slice x.t.t.a x.t.t.len x.t.t.cap, .int .i64 x.t.t.n, .int .i64 x.t.t.s] := HX1.o.range 1 _ rfl
 have Z2 := HZ2.o
 go_wp2_with (refine ldm Tryz.underlying78 ld ?_; try simp only [Act.put, sA, zA, cA])
 refine (Z2 _ r1 p1 q1 HB1.o).mono ?_
 rintro e w2 ⟨⟨r2, rfl, hr2⟩, hb2⟩
 have HX2 := iH (HX1.o.below hb2)
 have HB2 := iH (bl_trans HB1.o hb2)
 clear hb2 Z2 ld HX1 HB1
 rcases hr2 with rfl | ⟨p2, q2, s2⟩
 · go_wp2
   go_ret
   exact ⟨⟨-1, rfl, .inl rfl⟩, HB2.o⟩
 have n2 : ¬ r2 < 0 := by omega
 have HS2 := iH s2
 clear s2
 go_wp2
 go_ret
 exact ⟨⟨r2, rfl, .inr ⟨p2, q2, (show r2 + ((x.v.wt + x.t.t.len : Nat) : Int) ≤ l by have a1 := HS1.o; have a2 := HS2.o; omega)⟩⟩, HB2.o⟩
theorem szPat_w (x : PB) (l : Int) (w : World) (h1 : 0 ≤ l) (h2 : l ≤ 1048576) (hc : x.came w) :
 Calls Tryz.prog 81 #[.agg x.ar, .int .i64 l] w fun e w' => Sw l x.wt e ∧ Bl w w' := by
 have HZ1 : Hd (∀ (W : World) (l : Int), 0 ≤ l → l ≤ 1048576 → Bl w W → Cl 120 #[.agg x.s.ar, .int .i64 l] W fun e w' => Sw l (x.s.wt) e ∧ Bl W w') := fun W l h1 h2 hb => szItem_w x.s l W h1 h2 (hc.1.below hb)
 have HZ2 : Hd (∀ (W : World) (l : Int), 0 ≤ l → l ≤ 1048576 → Bl w W → Cl 120 #[.agg x.p.ar, .int .i64 l] W fun e w' => Sw l (x.p.wt) e ∧ Bl W w') := fun W l h1 h2 hb => szItem_w x.p l W h1 h2 (hc.2.1.below hb)
 have HZ3 : Hd (∀ (W : World) (l : Int), 0 ≤ l → l ≤ 1048576 → Bl w W → Cl 120 #[.agg x.o.ar, .int .i64 l] W fun e w' => Sw l (x.o.wt) e ∧ Bl W w') := fun W l h1 h2 hb => szItem_w x.o l W h1 h2 (hc.2.2.below hb)
 clear hc
 go_in
 have Z1 := HZ1.o
 go_wp2_with fail
 refine (Z1 _ l h1 h2 (bl_a _)).mono ?_
 rintro e w1 ⟨⟨r1, rfl, hr1⟩, hb1⟩
 have HX1 : Hd (Box w1 w.heap.size x.cl) := (Box.new w x.ar 82 _).below hb1
 have HB1 := iH (bl_trans (bl_a _) hb1)
 clear hb1 Z1 
 rcases hr1 with rfl | ⟨p1, q1, s1⟩
 · go_wp2
   go_ret
   exact ⟨⟨-1, rfl, .inl rfl⟩, HB1.o⟩
 have n1 : ¬ r1 < 0 := by omega
 have HS1 := iH s1
 clear s1
 have ld : w1.rangeAt w.heap.size 5 x.p.cl := HX1.o.range 5 _ rfl
 have Z2 := HZ2.o
 go_wp2_with (refine ldm Tryz.underlying80 ld ?_; try simp only [Act.put, sA, zA, cA])
 refine (Z2 _ r1 p1 q1 HB1.o).mono ?_
 rintro e w2 ⟨⟨r2, rfl, hr2⟩, hb2⟩
 have HX2 := iH (HX1.o.below hb2)
 have HB2 := iH (bl_trans HB1.o hb2)
 clear hb2 Z2 ld HX1 HB1
 rcases hr2 with rfl | ⟨p2, q2, s2⟩
 · go_wp2
   go_ret
   exact ⟨⟨-1, rfl, .inl rfl⟩, HB2.o⟩
 have n2 : ¬ r2 < 0 := by omega
 have HS2 := iH s2
 clear s2
 have ld : w2.rangeAt w.heap.size 10 x.o.cl := HX2.o.range 10 _ rfl
 have Z3 := HZ3.o
 go_wp2_with (refine ldm Tryz.underlying80 ld ?_; try simp only [Act.put, sA, zA, cA])
 refine (Z3 _ r2 p2 q2 HB2.o).mono ?_
 rintro e w3 ⟨⟨r3, rfl, hr3⟩, hb3⟩
 have HX3 := iH (HX2.o.below hb3)
 have HB3 := iH (bl_trans HB2.o hb3)
 clear hb3 Z3 ld HX2 HB2
 rcases hr3 with rfl | ⟨p3, q3, s3⟩
 · go_wp2
   go_ret
   exact ⟨⟨-1, rfl, .inl rfl⟩, HB3.o⟩
 have n3 : ¬ r3 < 0 := by omega
 have HS3 := iH s3
 clear s3
 go_wp2
 go_ret
 exact ⟨⟨r3, rfl, .inr ⟨p3, q3, (show r3 + ((x.s.wt + x.p.wt + x.o.wt : Nat) : Int) ≤ l by have a1 := HS1.o; have a2 := HS2.o; have a3 := HS3.o; omega)⟩⟩, HB3.o⟩
theorem szExprS_w (a : Option Addr) (cap n : Nat) (kid : Nat → ET) (l : Int) (w : World) (h1 : 0 ≤ l) (h2 : l ≤ 1048576) (hn : n ≤ 9223372036854775807) (hR : KRow 0 w 8 a n (fun i => (kid i).d.cells))
 (IH : ∀ i, i < n → ∀ (W : World) (l : Int), 0 ≤ l → l ≤ 1048576 → Bl w W → Calls Tryz.prog 82 #[.agg (kid i).d.ar, .int .i64 l] W fun e w' => Sw l (kid i).wt e ∧ Bl W w') :
 Calls Tryz.prog 122 #[.slice a n cap, .int .i64 l] w fun e w' => Sw l (n + sumN n (fun i => (kid i).wt)) e ∧ Bl w w' := by
 try unfold EN.ar
 by_cases hbig : l < n
 · clear hR IH
   go_in
   go_wp2
   go_ret
   exact ⟨⟨-1, rfl, .inl rfl⟩, Below.refl _ _⟩
 by_cases hn0 : n = 0
 · subst hn0
   clear hR IH hn hbig
   have hbig : ¬ l < 0 := by omega
   go_in
   go_wp2
   refine wp_loop_rounds 1 ?_
   rw [rounds_succ]
   go_wp2
   go_ret
   exact ⟨⟨_, rfl, .inr ⟨by omega, by omega, by simp [sumN]⟩⟩, Below.refl _ _⟩
 obtain ⟨b, off, rfl, _, hlt, hc⟩ := hR.resolve_left hn0
 have HC := iH hc
 have HI := iH IH
 clear hR hc IH
 go_in
 go_wp2
 go_loopw [1, 5] (fun x i wr => ∃ (k : Nat) (r : Int), k ≤ n ∧ i = .int .i64 k ∧ x = .int .i64 r ∧ 0 ≤ r ∧ r ≤ 1048576 ∧ Hd (Bl w wr) ∧ Hd (r + ((n + sumN k (fun i => (kid i).wt) : Nat) : Int) ≤ l))
  (fun _ i _ => n - (intOf i).toNat)
 case atStart => exact ⟨0, _, nZ, rfl, rfl, by omega, by omega, Below.refl _ _, (show _ ≤ _ by simp only [sumN]; omega)⟩
 obtain ⟨k, r, hk, rfl, rfl, hr0, hr1, HB, HH⟩ := hrel
 by_cases hlk : k < n
 · have hcx : ∀ c u, ((kid k).d.cells)[c]? = some u → wr.cell? ⟨b, off + k * 8 + c, none⟩ = some u := fun c u hu => (HB.o.cell (p := ⟨b, off + k * 8 + c, none⟩) hlt).trans (HC.o k hlk c u hu)
   have hin : (Tryz.prog.info? 85).map (·.size) = some 8 := by kernel_rfl
   have Z := HI.o k hlk
   go_wp2_with (refine wpList_load_mid rfl 85 _ rfl b (off + k * 8) rfl (kid k).d.cl _ hcx Tryz.underlying85 rfl hin ?_; try simp only [Act.put, sA, zA, cA])
   refine (Z _ r hr0 hr1 HB.o).mono ?_
   rintro e w2 ⟨⟨q, rfl, hq⟩, hb2⟩
   have HB2 := iH (bl_trans HB.o hb2)
   clear hcx hin Z hb2 HB
   rcases hq with rfl | ⟨z1, z2, z3⟩
   · go_wp2
     go_ret
     exact ⟨⟨-1, rfl, .inl rfl⟩, HB2.o⟩
   have HZ3 := iH z3
   have nq : ¬ q < 0 := by omega
   clear z3
   go_wp2
   go_roundw
   case rel =>
    refine ⟨k + 1, q, by omega, by go_num, rfl, by omega, by omega, HB2, ?_⟩
    have a1 := HH.o
    have a2 := HZ3.o
    show q + ((n + (sumN k (fun i => (kid i).wt) + (kid k).wt) : Nat) : Int) ≤ l
    omega
   case measure => simp [intOf]; omega
 obtain rfl : k = n := by omega
 go_wp2
 go_ret
 exact ⟨⟨r, rfl, .inr ⟨hr0, hr1, HH.o⟩⟩, HB.o⟩
theorem szExpr_w (e : ET) : ∀ (l : Int) (w : World), 0 ≤ l → l ≤ 1048576 → e.came w → Calls Tryz.prog 82 #[.agg e.d.ar, .int .i64 l] w fun r w' => Sw l e.wt r ∧ Bl w w' := by
 induction e with
 | nil => exact fun _ _ _ _ h => False.elim h
 | mk d kid ih =>
  intro l w h1 h2 hc
  show Calls Tryz.prog 82 #[.agg d.ar, .int .i64 l] w fun r w' => Sw l (d.v.len + d.t.t.len + (d.n + sumN d.n (fun i => (kid i).wt))) r ∧ Bl w w'
  obtain ⟨hv, ht, _, hn, hR, hk⟩ := hc
  have HZ1 : Hd (∀ (W : World) (l : Int), 0 ≤ l → l ≤ 1048576 → Bl w W → Cl 49 #[.slice d.v.a d.v.len d.v.cap, .int .i64 l] W fun e w' => Sw l (d.v.len) e ∧ Bl W w') := fun W l h1 h2 hb => szByteS_w d.v l W h1 h2 hv.1
  have HZ2 : Hd (∀ (W : World) (l : Int), 0 ≤ l → l ≤ 1048576 → Bl w W → Cl 121 #[.agg #[.int .i64 d.t.t.k, .slice d.t.t.a d.t.t.len d.t.t.cap, .int .i64 d.t.t.n, .int .i64 d.t.t.s], .int .i64 l] W fun e w' => Sw l (d.t.t.len) e ∧ Bl W w') := fun W l h1 h2 hb => szTerm_w d.t l W h1 h2 ht.1
  have HZ3 : Hd (∀ (W : World) (l : Int), 0 ≤ l → l ≤ 1048576 → Bl w W → Cl 122 #[.slice d.ka d.n d.kc, .int .i64 l] W fun e w' => Sw l (d.n + sumN d.n (fun i => (kid i).wt)) e ∧ Bl W w') := fun W l h1 h2 hb => szExprS_w d.ka d.kc d.n kid l W h1 h2 hn (hR.upper (uB hb)) fun i hi W' l' a1 a2 hW => ih i l' W' a1 a2 (ET.came.below (bl_trans hb hW) (hk i hi))
  clear hv ht hR hk ih hn
  go_in
  have Z1 := HZ1.o
  go_wp2_with fail
  refine (Z1 _ l h1 h2 (bl_a _)).mono ?_
  rintro e w1 ⟨⟨r1, rfl, hr1⟩, hb1⟩
  have HX1 : Hd (Box w1 w.heap.size d.cl) := (Box.new w d.ar 85 _).below hb1
  have HB1 := iH (bl_trans (bl_a _) hb1)
  clear hb1 Z1 
  rcases hr1 with rfl | ⟨p1, q1, s1⟩
  · go_wp2
    go_ret
    exact ⟨⟨-1, rfl, .inl rfl⟩, HB1.o⟩
  have n1 : ¬ r1 < 0 := by omega
  have HS1 := iH s1
  clear s1
  have ld : w1.rangeAt w.heap.size 3 [.int .i64 d.t.t.k, .slice d.t.t.a d.t.t.len d.t.t.cap, .int .i64 d.t.t.n, .int .i64 d.t.t.s] := HX1.o.range 3 _ rfl
  have Z2 := HZ2.o
  go_wp2_with (refine ldm Tryz.underlying78 ld ?_; try simp only [Act.put, sA, zA, cA])
  refine (Z2 _ r1 p1 q1 HB1.o).mono ?_
  rintro e w2 ⟨⟨r2, rfl, hr2⟩, hb2⟩
  have HX2 := iH (HX1.o.below hb2)
  have HB2 := iH (bl_trans HB1.o hb2)
  clear hb2 Z2 ld HX1 HB1
  rcases hr2 with rfl | ⟨p2, q2, s2⟩
  · go_wp2
    go_ret
    exact ⟨⟨-1, rfl, .inl rfl⟩, HB2.o⟩
  have n2 : ¬ r2 < 0 := by omega
  have HS2 := iH s2
  clear s2
  have ld := HX2.o.2 7 _ rfl
  have Z3 := HZ3.o
  go_wp2_with fail
  refine (Z3 _ r2 p2 q2 HB2.o).mono ?_
  rintro e w3 ⟨⟨r3, rfl, hr3⟩, hb3⟩
  have HX3 := iH (HX2.o.below hb3)
  have HB3 := iH (bl_trans HB2.o hb3)
  clear hb3 Z3 ld HX2 HB2
  rcases hr3 with rfl | ⟨p3, q3, s3⟩
  · go_wp2
    go_ret
    exact ⟨⟨-1, rfl, .inl rfl⟩, HB3.o⟩
  have n3 : ¬ r3 < 0 := by omega
  have HS3 := iH s3
  clear s3
  go_wp2
  go_ret
  exact ⟨⟨r3, rfl, .inr ⟨p3, q3, (show r3 + ((d.v.len + d.t.t.len + (d.n + sumN d.n (fun i => (kid i).wt)) : Nat) : Int) ≤ l by have a1 := HS1.o; have a2 := HS2.o; have a3 := HS3.o; omega)⟩⟩, HB3.o⟩
theorem szTermS_w (a : Option Addr) (cap : Nat) (tb : List TB) (l : Int) (w : World) (h1 : 0 ≤ l) (h2 : l ≤ 1048576) (hc : TCm w a tb) :
 Calls Tryz.prog 83 #[.slice a tb.length cap, .int .i64 l] w fun e w' => Sw l (tb.length + twt tb tb.length) e ∧ Bl w w' := by
 obtain ⟨hR, hn, hl⟩ := hc
 obtain ⟨n, hnn⟩ : ∃ n, n = tb.length := ⟨_, rfl⟩
 have HN := iH hnn
 rw [← hnn] at hn
 rw [← hnn]
 by_cases hbig : l < n
 · clear hR hl
   go_in
   go_wp2
   go_ret
   exact ⟨⟨-1, rfl, .inl rfl⟩, Below.refl _ _⟩
 by_cases hn0 : n = 0
 · subst hn0
   clear hR hl hnn HN hn hbig
   have hbig : ¬ l < 0 := by omega
   go_in
   go_wp2
   refine wp_loop_rounds 1 ?_
   rw [rounds_succ]
   go_wp2
   go_ret
   exact ⟨⟨_, rfl, .inr ⟨by omega, by omega, by simp [twt, sumN]⟩⟩, Below.refl _ _⟩
 have ht0 : tb ≠ [] := by
  intro e
  rw [e] at hnn
  exact hn0 (by simpa using hnn)
 obtain ⟨b, off, rfl, hlt, hc⟩ := hR.resolve_left ht0
 have HC := iH hc
 have HL : Hd (∀ x ∈ tb, x.t.len ≤ 9223372036854775807) := fun x hx => (hl x hx).1.1
 clear hR hl hc hnn ht0
 go_in
 go_wp2
 go_loopw [1, 5] (fun x i wr => ∃ (k : Nat) (r : Int), k ≤ n ∧ i = .int .i64 k ∧ x = .int .i64 r ∧ 0 ≤ r ∧ r ≤ 1048576 ∧ Hd (Bl w wr) ∧ Hd (r + ((n + twt tb k : Nat) : Int) ≤ l))
  (fun _ i _ => n - (intOf i).toNat)
 case atStart => exact ⟨0, _, nZ, rfl, rfl, by omega, by omega, Below.refl _ _, (show _ ≤ _ by simp only [twt, sumN]; omega)⟩
 obtain ⟨k, r, hk, rfl, rfl, hr0, hr1, HB, HH⟩ := hrel
 by_cases hlk : k < n
 · have hkl : k < tb.length := by rw [← HN.o]; exact hlk
   obtain ⟨x, hx⟩ : ∃ x, x = tb[k] := ⟨_, rfl⟩
   have HX : Hd (tb[k]? = some x) := (show tb[k]? = some x by rw [hx]; exact List.getElem?_eq_getElem hkl)
   have hcx := TRow.at (l := tb) (b := b) (off := off) (w := wr) (fun j u hu => (HB.o.cell (p := ⟨b, off + j, none⟩) hlt).trans (HC.o j u hu)) k hkl
   rw [← hx] at hcx
   obtain ⟨x0, x1, x2, x3⟩ := hcx
   have Z := fun w => szTerm_w x r w hr0 hr1 (HL.o x (List.mem_of_getElem? HX.o))
   clear hx hkl
   go_wp2_with fail
   refine (Z _).mono ?_
   rintro e w2 ⟨⟨q, rfl, hq⟩, hb2⟩
   have HB2 := iH (bl_trans HB.o hb2)
   clear x0 x1 x2 x3 Z hb2 HB
   rcases hq with rfl | ⟨z1, z2, z3⟩
   · go_wp2
     go_ret
     exact ⟨⟨-1, rfl, .inl rfl⟩, HB2.o⟩
   have HZ3 := iH z3
   have nq : ¬ q < 0 := by omega
   clear z3
   go_wp2
   go_roundw
   case rel =>
    refine ⟨k + 1, q, by omega, by go_num, rfl, by omega, by omega, HB2, ?_⟩
    have a1 := HH.o
    have a2 := HZ3.o
    have a3 : twt tb (k + 1) = twt tb k + x.t.len := by
     show twt tb k + (tb[k]?.map (fun x => x.t.len)).getD 0 = _
     rw [HX.o]
     rfl
    show q + ((n + twt tb (k + 1) : Nat) : Int) ≤ l
    omega
   case measure => simp [intOf]; omega
 obtain rfl : k = n := by omega
 go_wp2
 go_ret
 exact ⟨⟨r, rfl, .inr ⟨hr0, hr1, HH.o⟩⟩, HB.o⟩
theorem szSel_w (x : SE) (l : Int) (w : World) (h1 : 0 ≤ l) (h2 : l ≤ 1048576) (hc : x.came w) :
 Calls Tryz.prog 47 #[.agg x.ar, .int .i64 l] w fun e w' => Sw l x.wt e ∧ Bl w w' := by
 have HZ1 : Hd (∀ (W : World) (l : Int), 0 ≤ l → l ≤ 1048576 → Bl w W → Cl 49 #[.slice x.of.a x.of.len x.of.cap, .int .i64 l] W fun e w' => Sw l (x.of.wt) e ∧ Bl W w') := fun W l h1 h2 hb => szByteS_w x.of l W h1 h2 hc.1.1
 have HZ2 : Hd (∀ (W : World) (l : Int), 0 ≤ l → l ≤ 1048576 → Bl w W → Cl 49 #[.slice x.v.a x.v.len x.v.cap, .int .i64 l] W fun e w' => Sw l (x.v.wt) e ∧ Bl W w') := fun W l h1 h2 hb => szByteS_w x.v l W h1 h2 hc.2.1
 clear hc
 go_in
 have Z1 := HZ1.o
 go_wp2_with fail
 refine (Z1 _ l h1 h2 (bl_a _)).mono ?_
 rintro e w1 ⟨⟨r1, rfl, hr1⟩, hb1⟩
 have HX1 : Hd (Box w1 w.heap.size x.cl) := (Box.new w x.ar 75 _).below hb1
 have HB1 := iH (bl_trans (bl_a _) hb1)
 clear hb1 Z1 
 rcases hr1 with rfl | ⟨p1, q1, s1⟩
 · go_wp2
   go_ret
   exact ⟨⟨-1, rfl, .inl rfl⟩, HB1.o⟩
 have n1 : ¬ r1 < 0 := by omega
 have HS1 := iH s1
 clear s1
 have ld := HX1.o.2 2 _ rfl
 have Z2 := HZ2.o
 go_wp2_with fail
 refine (Z2 _ r1 p1 q1 HB1.o).mono ?_
 rintro e w2 ⟨⟨r2, rfl, hr2⟩, hb2⟩
 have HX2 := iH (HX1.o.below hb2)
 have HB2 := iH (bl_trans HB1.o hb2)
 clear hb2 Z2 ld HX1 HB1
 rcases hr2 with rfl | ⟨p2, q2, s2⟩
 · go_wp2
   go_ret
   exact ⟨⟨-1, rfl, .inl rfl⟩, HB2.o⟩
 have n2 : ¬ r2 < 0 := by omega
 have HS2 := iH s2
 clear s2
 go_wp2
 go_ret
 exact ⟨⟨r2, rfl, .inr ⟨p2, q2, (show r2 + ((x.of.wt + x.v.wt : Nat) : Int) ≤ l by have a1 := HS1.o; have a2 := HS2.o; omega)⟩⟩, HB2.o⟩
theorem szSelS_w (a : Option Addr) (cap n : Nat) (kid : Nat → SE) (l : Int) (w : World) (h1 : 0 ≤ l) (h2 : l ≤ 1048576) (hn : n ≤ 9223372036854775807) (hR : KRow 0 w 3 a n (fun i => (kid i).cells))
 (IH : ∀ i, i < n → ∀ (W : World) (l : Int), 0 ≤ l → l ≤ 1048576 → Bl w W → Calls Tryz.prog 47 #[.agg (kid i).ar, .int .i64 l] W fun e w' => Sw l (kid i).wt e ∧ Bl W w') :
 Calls Tryz.prog 22 #[.slice a n cap, .int .i64 l] w fun e w' => Sw l (n + sumN n (fun i => (kid i).wt)) e ∧ Bl w w' := by
 try unfold SE.ar
 by_cases hbig : l < n
 · clear hR IH
   go_in
   go_wp2
   go_ret
   exact ⟨⟨-1, rfl, .inl rfl⟩, Below.refl _ _⟩
 by_cases hn0 : n = 0
 · subst hn0
   clear hR IH hn hbig
   have hbig : ¬ l < 0 := by omega
   go_in
   go_wp2
   refine wp_loop_rounds 1 ?_
   rw [rounds_succ]
   go_wp2
   go_ret
   exact ⟨⟨_, rfl, .inr ⟨by omega, by omega, by simp [sumN]⟩⟩, Below.refl _ _⟩
 obtain ⟨b, off, rfl, _, hlt, hc⟩ := hR.resolve_left hn0
 have HC := iH hc
 have HI := iH IH
 clear hR hc IH
 go_in
 go_wp2
 go_loopw [1, 5] (fun x i wr => ∃ (k : Nat) (r : Int), k ≤ n ∧ i = .int .i64 k ∧ x = .int .i64 r ∧ 0 ≤ r ∧ r ≤ 1048576 ∧ Hd (Bl w wr) ∧ Hd (r + ((n + sumN k (fun i => (kid i).wt) : Nat) : Int) ≤ l))
  (fun _ i _ => n - (intOf i).toNat)
 case atStart => exact ⟨0, _, nZ, rfl, rfl, by omega, by omega, Below.refl _ _, (show _ ≤ _ by simp only [sumN]; omega)⟩
 obtain ⟨k, r, hk, rfl, rfl, hr0, hr1, HB, HH⟩ := hrel
 by_cases hlk : k < n
 · have hcx : ∀ c u, ((kid k).cells)[c]? = some u → wr.cell? ⟨b, off + k * 3 + c, none⟩ = some u := fun c u hu => (HB.o.cell (p := ⟨b, off + k * 3 + c, none⟩) hlt).trans (HC.o k hlk c u hu)
   have hin : (Tryz.prog.info? 75).map (·.size) = some 3 := by kernel_rfl
   have Z := HI.o k hlk
   go_wp2_with (refine wpList_load_mid rfl 75 _ rfl b (off + k * 3) rfl (kid k).cl _ hcx Tryz.underlying75 rfl hin ?_; try simp only [Act.put, sA, zA, cA])
   refine (Z _ r hr0 hr1 HB.o).mono ?_
   rintro e w2 ⟨⟨q, rfl, hq⟩, hb2⟩
   have HB2 := iH (bl_trans HB.o hb2)
   clear hcx hin Z hb2 HB
   rcases hq with rfl | ⟨z1, z2, z3⟩
   · go_wp2
     go_ret
     exact ⟨⟨-1, rfl, .inl rfl⟩, HB2.o⟩
   have HZ3 := iH z3
   have nq : ¬ q < 0 := by omega
   clear z3
   go_wp2
   go_roundw
   case rel =>
    refine ⟨k + 1, q, by omega, by go_num, rfl, by omega, by omega, HB2, ?_⟩
    have a1 := HH.o
    have a2 := HZ3.o
    show q + ((n + (sumN k (fun i => (kid i).wt) + (kid k).wt) : Nat) : Int) ≤ l
    omega
   case measure => simp [intOf]; omega
 obtain rfl : k = n := by omega
 go_wp2
 go_ret
 exact ⟨⟨r, rfl, .inr ⟨hr0, hr1, HH.o⟩⟩, HB.o⟩
theorem szKey_w (x : KY) (l : Int) (w : World) (h1 : 0 ≤ l) (h2 : l ≤ 1048576) (hc : x.came w) :
 Calls Tryz.prog 50 #[.agg #[.slice x.v.a x.v.len x.v.cap, .bool x.down], .int .i64 l] w fun e w' => Sw l x.wt e ∧ Bl w w' := by
 have HZ1 : Hd (∀ (W : World) (l : Int), 0 ≤ l → l ≤ 1048576 → Bl w W → Cl 49 #[.slice x.v.a x.v.len x.v.cap, .int .i64 l] W fun e w' => Sw l (x.v.wt) e ∧ Bl W w') := fun W l h1 h2 hb => szByteS_w x.v l W h1 h2 hc.1
 clear hc
 go_in
 have Z1 := HZ1.o
 go_wp2_with fail
 refine (Z1 _ l h1 h2 (bl_a _)).mono ?_
 rintro e w1 ⟨⟨r1, rfl, hr1⟩, hb1⟩
 have HX1 : Hd (Box w1 w.heap.size [.slice x.v.a x.v.len x.v.cap, .bool x.down]) := (Box.new w #[.slice x.v.a x.v.len x.v.cap, .bool x.down] 91 _).below hb1
 have HB1 := iH (bl_trans (bl_a _) hb1)
 clear hb1 Z1 
 rcases hr1 with rfl | ⟨p1, q1, s1⟩
 · go_wp2
   go_ret
   exact ⟨⟨-1, rfl, .inl rfl⟩, HB1.o⟩
 have n1 : ¬ r1 < 0 := by omega
 have HS1 := iH s1
 clear s1
 go_wp2
 go_ret
 exact ⟨⟨r1, rfl, .inr ⟨p1, q1, (show r1 + ((x.v.wt : Nat) : Int) ≤ l by have a1 := HS1.o; omega)⟩⟩, HB1.o⟩
theorem szKeyS_w (a : Option Addr) (cap n : Nat) (kid : Nat → KY) (l : Int) (w : World) (h1 : 0 ≤ l) (h2 : l ≤ 1048576) (hn : n ≤ 9223372036854775807) (hR : KRow 0 w 2 a n (fun i => (kid i).cells))
 (IH : ∀ i, i < n → ∀ (W : World) (l : Int), 0 ≤ l → l ≤ 1048576 → Bl w W → Calls Tryz.prog 50 #[.agg #[.slice (kid i).v.a (kid i).v.len (kid i).v.cap, .bool (kid i).down], .int .i64 l] W fun e w' => Sw l (kid i).wt e ∧ Bl W w') :
 Calls Tryz.prog 25 #[.slice a n cap, .int .i64 l] w fun e w' => Sw l (n + sumN n (fun i => (kid i).wt)) e ∧ Bl w w' := by
 by_cases hbig : l < n
 · clear hR IH
   go_in
   go_wp2
   go_ret
   exact ⟨⟨-1, rfl, .inl rfl⟩, Below.refl _ _⟩
 by_cases hn0 : n = 0
 · subst hn0
   clear hR IH hn hbig
   have hbig : ¬ l < 0 := by omega
   go_in
   go_wp2
   refine wp_loop_rounds 1 ?_
   rw [rounds_succ]
   go_wp2
   go_ret
   exact ⟨⟨_, rfl, .inr ⟨by omega, by omega, by simp [sumN]⟩⟩, Below.refl _ _⟩
 obtain ⟨b, off, rfl, _, hlt, hc⟩ := hR.resolve_left hn0
 have HC := iH hc
 have HI := iH IH
 clear hR hc IH
 go_in
 go_wp2
 go_loopw [1, 5] (fun x i wr => ∃ (k : Nat) (r : Int), k ≤ n ∧ i = .int .i64 k ∧ x = .int .i64 r ∧ 0 ≤ r ∧ r ≤ 1048576 ∧ Hd (Bl w wr) ∧ Hd (r + ((n + sumN k (fun i => (kid i).wt) : Nat) : Int) ≤ l))
  (fun _ i _ => n - (intOf i).toNat)
 case atStart => exact ⟨0, _, nZ, rfl, rfl, by omega, by omega, Below.refl _ _, (show _ ≤ _ by simp only [sumN]; omega)⟩
 obtain ⟨k, r, hk, rfl, rfl, hr0, hr1, HB, HH⟩ := hrel
 by_cases hlk : k < n
 · have hcx : ∀ c u, ((kid k).cells)[c]? = some u → wr.cell? ⟨b, off + k * 2 + c, none⟩ = some u := fun c u hu => (HB.o.cell (p := ⟨b, off + k * 2 + c, none⟩) hlt).trans (HC.o k hlk c u hu)
   have hin : (Tryz.prog.info? 91).map (·.size) = some 2 := by kernel_rfl
   have Z := HI.o k hlk
   go_wp2_with (refine wpList_load_mid rfl 91 _ rfl b (off + k * 2) rfl [.slice (kid k).v.a (kid k).v.len (kid k).v.cap, .bool (kid k).down] _ hcx Tryz.underlying91 rfl hin ?_; try simp only [Act.put, sA, zA, cA])
   refine (Z _ r hr0 hr1 HB.o).mono ?_
   rintro e w2 ⟨⟨q, rfl, hq⟩, hb2⟩
   have HB2 := iH (bl_trans HB.o hb2)
   clear hcx hin Z hb2 HB
   rcases hq with rfl | ⟨z1, z2, z3⟩
   · go_wp2
     go_ret
     exact ⟨⟨-1, rfl, .inl rfl⟩, HB2.o⟩
   have HZ3 := iH z3
   have nq : ¬ q < 0 := by omega
   clear z3
   go_wp2
   go_roundw
   case rel =>
    refine ⟨k + 1, q, by omega, by go_num, rfl, by omega, by omega, HB2, ?_⟩
    have a1 := HH.o
    have a2 := HZ3.o
    show q + ((n + (sumN k (fun i => (kid i).wt) + (kid k).wt) : Nat) : Int) ≤ l
    omega
   case measure => simp [intOf]; omega
 obtain rfl : k = n := by omega
 go_wp2
 go_ret
 exact ⟨⟨r, rfl, .inr ⟨hr0, hr1, HH.o⟩⟩, HB.o⟩
theorem szByteSS_w (a : Option Addr) (cap n : Nat) (kid : Nat → SL) (l : Int) (w : World) (h1 : 0 ≤ l) (h2 : l ≤ 1048576) (hn : n ≤ 9223372036854775807) (hR : KRow 0 w 1 a n (fun i => (kid i).cells))
 (IH : ∀ i, i < n → ∀ (W : World) (l : Int), 0 ≤ l → l ≤ 1048576 → Bl w W → Calls Tryz.prog 49 #[.slice (kid i).a (kid i).len (kid i).cap, .int .i64 l] W fun e w' => Sw l (kid i).wt e ∧ Bl W w') :
 Calls Tryz.prog 24 #[.slice a n cap, .int .i64 l] w fun e w' => Sw l (n + sumN n (fun i => (kid i).wt)) e ∧ Bl w w' := by
 by_cases hbig : l < n
 · clear hR IH
   go_in
   go_wp2
   go_ret
   exact ⟨⟨-1, rfl, .inl rfl⟩, Below.refl _ _⟩
 by_cases hn0 : n = 0
 · subst hn0
   clear hR IH hn hbig
   have hbig : ¬ l < 0 := by omega
   go_in
   go_wp2
   refine wp_loop_rounds 1 ?_
   rw [rounds_succ]
   go_wp2
   go_ret
   exact ⟨⟨_, rfl, .inr ⟨by omega, by omega, by simp [sumN]⟩⟩, Below.refl _ _⟩
 obtain ⟨b, off, rfl, _, hlt, hc⟩ := hR.resolve_left hn0
 have HC := iH hc
 have HI := iH IH
 clear hR hc IH
 go_in
 go_wp2
 go_loopw [1, 5] (fun x i wr => ∃ (k : Nat) (r : Int), k ≤ n ∧ i = .int .i64 k ∧ x = .int .i64 r ∧ 0 ≤ r ∧ r ≤ 1048576 ∧ Hd (Bl w wr) ∧ Hd (r + ((n + sumN k (fun i => (kid i).wt) : Nat) : Int) ≤ l))
  (fun _ i _ => n - (intOf i).toNat)
 case atStart => exact ⟨0, _, nZ, rfl, rfl, by omega, by omega, Below.refl _ _, (show _ ≤ _ by simp only [sumN]; omega)⟩
 obtain ⟨k, r, hk, rfl, rfl, hr0, hr1, HB, HH⟩ := hrel
 by_cases hlk : k < n
 · have hcx : ∀ c u, ((kid k).cells)[c]? = some u → wr.cell? ⟨b, off + k * 1 + c, none⟩ = some u := fun c u hu => (HB.o.cell (p := ⟨b, off + k * 1 + c, none⟩) hlt).trans (HC.o k hlk c u hu)
   have hc0 : wr.cell? ⟨b, off + k, none⟩ = some (.slice (kid k).a (kid k).len (kid k).cap) := by have h := hcx 0 _ rfl; simpa using h
   have Z := HI.o k hlk
   go_wp2_with fail
   refine (Z _ r hr0 hr1 HB.o).mono ?_
   rintro e w2 ⟨⟨q, rfl, hq⟩, hb2⟩
   have HB2 := iH (bl_trans HB.o hb2)
   clear hcx hc0 Z hb2 HB
   rcases hq with rfl | ⟨z1, z2, z3⟩
   · go_wp2
     go_ret
     exact ⟨⟨-1, rfl, .inl rfl⟩, HB2.o⟩
   have HZ3 := iH z3
   have nq : ¬ q < 0 := by omega
   clear z3
   go_wp2
   go_roundw
   case rel =>
    refine ⟨k + 1, q, by omega, by go_num, rfl, by omega, by omega, HB2, ?_⟩
    have a1 := HH.o
    have a2 := HZ3.o
    show q + ((n + (sumN k (fun i => (kid i).wt) + (kid k).wt) : Nat) : Int) ≤ l
    omega
   case measure => simp [intOf]; omega
 obtain rfl : k = n := by omega
 go_wp2
 go_ret
 exact ⟨⟨r, rfl, .inr ⟨hr0, hr1, HH.o⟩⟩, HB.o⟩
theorem szElemS_w (a : Option Addr) (cap n : Nat) (kid : Nat → UT) (l : Int) (w : World) (h1 : 0 ≤ l) (h2 : l ≤ 1048576) (hn : n ≤ 9223372036854775807) (hR : KRow 0 w 28 a n (fun i => (kid i).d.cells))
 (IH : ∀ i, i < n → ∀ (W : World) (l : Int), 0 ≤ l → l ≤ 1048576 → Bl w W → Calls Tryz.prog 48 #[.agg (kid i).d.ar, .int .i64 l] W fun e w' => Sw l (kid i).wt e ∧ Bl W w') :
 Calls Tryz.prog 23 #[.slice a n cap, .int .i64 l] w fun e w' => Sw l (n + sumN n (fun i => (kid i).wt)) e ∧ Bl w w' := by
 try unfold UN.ar
 by_cases hbig : l < n
 · clear hR IH
   go_in
   go_wp2
   go_ret
   exact ⟨⟨-1, rfl, .inl rfl⟩, Below.refl _ _⟩
 by_cases hn0 : n = 0
 · subst hn0
   clear hR IH hn hbig
   have hbig : ¬ l < 0 := by omega
   go_in
   go_wp2
   refine wp_loop_rounds 1 ?_
   rw [rounds_succ]
   go_wp2
   go_ret
   exact ⟨⟨_, rfl, .inr ⟨by omega, by omega, by simp [sumN]⟩⟩, Below.refl _ _⟩
 obtain ⟨b, off, rfl, _, hlt, hc⟩ := hR.resolve_left hn0
 have HC := iH hc
 have HI := iH IH
 clear hR hc IH
 go_in
 go_wp2
 go_loopw [1, 5] (fun x i wr => ∃ (k : Nat) (r : Int), k ≤ n ∧ i = .int .i64 k ∧ x = .int .i64 r ∧ 0 ≤ r ∧ r ≤ 1048576 ∧ Hd (Bl w wr) ∧ Hd (r + ((n + sumN k (fun i => (kid i).wt) : Nat) : Int) ≤ l))
  (fun _ i _ => n - (intOf i).toNat)
 case atStart => exact ⟨0, _, nZ, rfl, rfl, by omega, by omega, Below.refl _ _, (show _ ≤ _ by simp only [sumN]; omega)⟩
 obtain ⟨k, r, hk, rfl, rfl, hr0, hr1, HB, HH⟩ := hrel
 by_cases hlk : k < n
 · have hcx : ∀ c u, ((kid k).d.cells)[c]? = some u → wr.cell? ⟨b, off + k * 28 + c, none⟩ = some u := fun c u hu => (HB.o.cell (p := ⟨b, off + k * 28 + c, none⟩) hlt).trans (HC.o k hlk c u hu)
   have hin : (Tryz.prog.info? 88).map (·.size) = some 28 := by kernel_rfl
   have Z := HI.o k hlk
   go_wp2_with (refine wpList_load_mid rfl 88 _ rfl b (off + k * 28) rfl (kid k).d.cl _ hcx Tryz.underlying88 rfl hin ?_; try simp only [Act.put, sA, zA, cA])
   refine (Z _ r hr0 hr1 HB.o).mono ?_
   rintro e w2 ⟨⟨q, rfl, hq⟩, hb2⟩
   have HB2 := iH (bl_trans HB.o hb2)
   clear hcx hin Z hb2 HB
   rcases hq with rfl | ⟨z1, z2, z3⟩
   · go_wp2
     go_ret
     exact ⟨⟨-1, rfl, .inl rfl⟩, HB2.o⟩
   have HZ3 := iH z3
   have nq : ¬ q < 0 := by omega
   clear z3
   go_wp2
   go_roundw
   case rel =>
    refine ⟨k + 1, q, by omega, by go_num, rfl, by omega, by omega, HB2, ?_⟩
    have a1 := HH.o
    have a2 := HZ3.o
    show q + ((n + (sumN k (fun i => (kid i).wt) + (kid k).wt) : Nat) : Int) ≤ l
    omega
   case measure => simp [intOf]; omega
 obtain rfl : k = n := by omega
 go_wp2
 go_ret
 exact ⟨⟨r, rfl, .inr ⟨hr0, hr1, HH.o⟩⟩, HB.o⟩
theorem szElem_w (e : UT) : ∀ (l : Int) (w : World), 0 ≤ l → l ≤ 1048576 → e.came w → Calls Tryz.prog 48 #[.agg e.d.ar, .int .i64 l] w fun r w' => Sw l e.wt r ∧ Bl w w' := by
 induction e with
 | nil => exact fun _ _ _ _ h => False.elim h
 | mk d ka kb ia ib =>
  intro l w h1 h2 hc
  show Calls Tryz.prog 48 #[.agg d.ar, .int .i64 l] w fun r w' => Sw l (d.p.wt + d.e.wt + d.v.len + (d.tb.length + twt d.tb d.tb.length) + (d.an + sumN d.an (fun i => (ka i).wt)) + (d.bn + sumN d.bn (fun i => (kb i).wt))) r ∧ Bl w w'
  obtain ⟨hp, he, hv, ht, ⟨an, aR⟩, ⟨bn, bR⟩, hka, hkb⟩ := hc
  have HZ1 : Hd (∀ (W : World) (l : Int), 0 ≤ l → l ≤ 1048576 → Bl w W → Cl 81 #[.agg d.p.ar, .int .i64 l] W fun e w' => Sw l (d.p.wt) e ∧ Bl W w') := fun W l h1 h2 hb => szPat_w d.p l W h1 h2 (hp.below hb)
  have HZ2 : Hd (∀ (W : World) (l : Int), 0 ≤ l → l ≤ 1048576 → Bl w W → Cl 82 #[.agg d.e.d.ar, .int .i64 l] W fun e w' => Sw l (d.e.wt) e ∧ Bl W w') := fun W l h1 h2 hb => szExpr_w d.e l W h1 h2 (ET.came.below hb he)
  have HZ3 : Hd (∀ (W : World) (l : Int), 0 ≤ l → l ≤ 1048576 → Bl w W → Cl 49 #[.slice d.v.a d.v.len d.v.cap, .int .i64 l] W fun e w' => Sw l (d.v.len) e ∧ Bl W w') := fun W l h1 h2 hb => szByteS_w d.v l W h1 h2 hv.1
  have HZ4 : Hd (∀ (W : World) (l : Int), 0 ≤ l → l ≤ 1048576 → Bl w W → Cl 83 #[.slice d.ta d.tb.length d.tc, .int .i64 l] W fun e w' => Sw l (d.tb.length + twt d.tb d.tb.length) e ∧ Bl W w') := fun W l h1 h2 hb => szTermS_w d.ta d.tc d.tb l W h1 h2 (ht.below hb)
  have HZ5 : Hd (∀ (W : World) (l : Int), 0 ≤ l → l ≤ 1048576 → Bl w W → Cl 23 #[.slice d.aa d.an d.ac, .int .i64 l] W fun e w' => Sw l (d.an + sumN d.an (fun i => (ka i).wt)) e ∧ Bl W w') := fun W l h1 h2 hb => szElemS_w d.aa d.ac d.an ka l W h1 h2 an (aR.upper (uB hb)) fun i hi W' l' a1 a2 hW => ia i l' W' a1 a2 ((hka i hi).below (bl_trans hb hW))
  have HZ6 : Hd (∀ (W : World) (l : Int), 0 ≤ l → l ≤ 1048576 → Bl w W → Cl 23 #[.slice d.ba d.bn d.bc, .int .i64 l] W fun e w' => Sw l (d.bn + sumN d.bn (fun i => (kb i).wt)) e ∧ Bl W w') := fun W l h1 h2 hb => szElemS_w d.ba d.bc d.bn kb l W h1 h2 bn (bR.upper (uB hb)) fun i hi W' l' a1 a2 hW => ib i l' W' a1 a2 ((hkb i hi).below (bl_trans hb hW))
  clear hp he hv ht an aR bn bR hka hkb ia ib
  go_in
  have Z1 := HZ1.o
  go_wp2_with fail
  refine (Z1 _ l h1 h2 (bl_a _)).mono ?_
  rintro e w1 ⟨⟨r1, rfl, hr1⟩, hb1⟩
  have HX1 : Hd (Box w1 w.heap.size d.cl) := (Box.new w d.ar 88 _).below hb1
  have HB1 := iH (bl_trans (bl_a _) hb1)
  clear hb1 Z1 
  rcases hr1 with rfl | ⟨p1, q1, s1⟩
  · go_wp2
    go_ret
    exact ⟨⟨-1, rfl, .inl rfl⟩, HB1.o⟩
  have n1 : ¬ r1 < 0 := by omega
  have HS1 := iH s1
  clear s1
  have ld : w1.rangeAt w.heap.size 16 d.e.d.cl := HX1.o.range 16 _ rfl
  have Z2 := HZ2.o
  go_wp2_with (refine ldm Tryz.underlying85 ld ?_; try simp only [Act.put, sA, zA, cA])
  refine (Z2 _ r1 p1 q1 HB1.o).mono ?_
  rintro e w2 ⟨⟨r2, rfl, hr2⟩, hb2⟩
  have HX2 := iH (HX1.o.below hb2)
  have HB2 := iH (bl_trans HB1.o hb2)
  clear hb2 Z2 ld HX1 HB1
  rcases hr2 with rfl | ⟨p2, q2, s2⟩
  · go_wp2
    go_ret
    exact ⟨⟨-1, rfl, .inl rfl⟩, HB2.o⟩
  have n2 : ¬ r2 < 0 := by omega
  have HS2 := iH s2
  clear s2
  have ld := HX2.o.2 24 _ rfl
  have Z3 := HZ3.o
  go_wp2_with fail
  refine (Z3 _ r2 p2 q2 HB2.o).mono ?_
  rintro e w3 ⟨⟨r3, rfl, hr3⟩, hb3⟩
  have HX3 := iH (HX2.o.below hb3)
  have HB3 := iH (bl_trans HB2.o hb3)
  clear hb3 Z3 ld HX2 HB2
  rcases hr3 with rfl | ⟨p3, q3, s3⟩
  · go_wp2
    go_ret
    exact ⟨⟨-1, rfl, .inl rfl⟩, HB3.o⟩
  have n3 : ¬ r3 < 0 := by omega
  have HS3 := iH s3
  clear s3
  have ld := HX3.o.2 25 _ rfl
  have Z4 := HZ4.o
  go_wp2_with fail
  refine (Z4 _ r3 p3 q3 HB3.o).mono ?_
  rintro e w4 ⟨⟨r4, rfl, hr4⟩, hb4⟩
  have HX4 := iH (HX3.o.below hb4)
  have HB4 := iH (bl_trans HB3.o hb4)
  clear hb4 Z4 ld HX3 HB3
  rcases hr4 with rfl | ⟨p4, q4, s4⟩
  · go_wp2
    go_ret
    exact ⟨⟨-1, rfl, .inl rfl⟩, HB4.o⟩
  have n4 : ¬ r4 < 0 := by omega
  have HS4 := iH s4
  clear s4
  have ld := HX4.o.2 26 _ rfl
  have Z5 := HZ5.o
  go_wp2_with fail
  refine (Z5 _ r4 p4 q4 HB4.o).mono ?_
  rintro e w5 ⟨⟨r5, rfl, hr5⟩, hb5⟩
  have HX5 := iH (HX4.o.below hb5)
  have HB5 := iH (bl_trans HB4.o hb5)
  clear hb5 Z5 ld HX4 HB4
  rcases hr5 with rfl | ⟨p5, q5, s5⟩
  · go_wp2
    go_ret
    exact ⟨⟨-1, rfl, .inl rfl⟩, HB5.o⟩
  have n5 : ¬ r5 < 0 := by omega
  have HS5 := iH s5
  clear s5
  have ld := HX5.o.2 27 _ rfl
  have Z6 := HZ6.o
  go_wp2_with fail
  refine (Z6 _ r5 p5 q5 HB5.o).mono ?_
  rintro e w6 ⟨⟨r6, rfl, hr6⟩, hb6⟩
  have HX6 := iH (HX5.o.below hb6)
  have HB6 := iH (bl_trans HB5.o hb6)
  clear hb6 Z6 ld HX5 HB5
  rcases hr6 with rfl | ⟨p6, q6, s6⟩
  · go_wp2
    go_ret
    exact ⟨⟨-1, rfl, .inl rfl⟩, HB6.o⟩
  have n6 : ¬ r6 < 0 := by omega
  have HS6 := iH s6
  clear s6
  go_wp2
  go_ret
  exact ⟨⟨r6, rfl, .inr ⟨p6, q6, (show r6 + ((d.p.wt + d.e.wt + d.v.len + (d.tb.length + twt d.tb d.tb.length) + (d.an + sumN d.an (fun i => (ka i).wt)) + (d.bn + sumN d.bn (fun i => (kb i).wt)) : Nat) : Int) ≤ l by have a1 := HS1.o; have a2 := HS2.o; have a3 := HS3.o; have a4 := HS4.o; have a5 := HS5.o; have a6 := HS6.o; omega)⟩⟩, HB6.o⟩
theorem szQuery_w (x : QY) (l : Int) (w : World) (h1 : 0 ≤ l) (h2 : l ≤ 1048576) (hc : x.came w) :
 Calls Tryz.prog 6 #[.agg x.ar, .int .i64 l] w fun e w' => Sw l x.wt e ∧ Bl w w' := by
 have HZ1 : Hd (∀ (W : World) (l : Int), 0 ≤ l → l ≤ 1048576 → Bl w W → Cl 22 #[.slice x.sa x.sn x.sc, .int .i64 l] W fun e w' => Sw l (x.sn + sumN x.sn (fun i => (x.sel i).wt)) e ∧ Bl W w') := fun W l h1 h2 hb => szSelS_w x.sa x.sc x.sn x.sel l W h1 h2 hc.s.2.2 (hc.s.1.upper (uB hb)) fun i hi W' l' a1 a2 hW => szSel_w (x.sel i) l' W' a1 a2 ((hc.s.2.1 i hi).below (bl_trans hb hW))
 have HZ2 : Hd (∀ (W : World) (l : Int), 0 ≤ l → l ≤ 1048576 → Bl w W → Cl 23 #[.slice x.ba x.bn x.bc, .int .i64 l] W fun e w' => Sw l (x.bn + sumN x.bn (fun i => (x.body i).wt)) e ∧ Bl W w') := fun W l h1 h2 hb => szElemS_w x.ba x.bc x.bn x.body l W h1 h2 hc.b.2.2 (hc.b.1.upper (uB hb)) fun i hi W' l' a1 a2 hW => szElem_w (x.body i) l' W' a1 a2 ((hc.b.2.1 i hi).below (bl_trans hb hW))
 have HZ3 : Hd (∀ (W : World) (l : Int), 0 ≤ l → l ≤ 1048576 → Bl w W → Cl 24 #[.slice x.ga x.gn x.gc, .int .i64 l] W fun e w' => Sw l (x.gn + sumN x.gn (fun i => (x.grp i).wt)) e ∧ Bl W w') := fun W l h1 h2 hb => szByteSS_w x.ga x.gc x.gn x.grp l W h1 h2 hc.g.2.2 (hc.g.1.upper (uB hb)) fun i hi W' l' a1 a2 hW => szByteS_w (x.grp i) l' W' a1 a2 (hc.g.2.1 i hi).1
 have HZ4 : Hd (∀ (W : World) (l : Int), 0 ≤ l → l ≤ 1048576 → Bl w W → Cl 25 #[.slice x.oa x.on x.oc, .int .i64 l] W fun e w' => Sw l (x.on + sumN x.on (fun i => (x.key i).wt)) e ∧ Bl W w') := fun W l h1 h2 hb => szKeyS_w x.oa x.oc x.on x.key l W h1 h2 hc.o.2.2 (hc.o.1.upper (uB hb)) fun i hi W' l' a1 a2 hW => szKey_w (x.key i) l' W' a1 a2 ((hc.o.2.1 i hi).below (bl_trans hb hW))
 clear hc
 go_in
 have Z1 := HZ1.o
 go_wp2_with fail
 refine (Z1 _ l h1 h2 (bl_a _)).mono ?_
 rintro e w1 ⟨⟨r1, rfl, hr1⟩, hb1⟩
 have HX1 : Hd (Box w1 w.heap.size x.cl) := (Box.new w x.ar 27 _).below hb1
 have HB1 := iH (bl_trans (bl_a _) hb1)
 clear hb1 Z1 
 rcases hr1 with rfl | ⟨p1, q1, s1⟩
 · go_wp2
   go_ret
   exact ⟨⟨-1, rfl, .inl rfl⟩, HB1.o⟩
 have n1 : ¬ r1 < 0 := by omega
 have HS1 := iH s1
 clear s1
 have ld := HX1.o.2 3 _ rfl
 have Z2 := HZ2.o
 go_wp2_with fail
 refine (Z2 _ r1 p1 q1 HB1.o).mono ?_
 rintro e w2 ⟨⟨r2, rfl, hr2⟩, hb2⟩
 have HX2 := iH (HX1.o.below hb2)
 have HB2 := iH (bl_trans HB1.o hb2)
 clear hb2 Z2 ld HX1 HB1
 rcases hr2 with rfl | ⟨p2, q2, s2⟩
 · go_wp2
   go_ret
   exact ⟨⟨-1, rfl, .inl rfl⟩, HB2.o⟩
 have n2 : ¬ r2 < 0 := by omega
 have HS2 := iH s2
 clear s2
 have ld := HX2.o.2 4 _ rfl
 have Z3 := HZ3.o
 go_wp2_with fail
 refine (Z3 _ r2 p2 q2 HB2.o).mono ?_
 rintro e w3 ⟨⟨r3, rfl, hr3⟩, hb3⟩
 have HX3 := iH (HX2.o.below hb3)
 have HB3 := iH (bl_trans HB2.o hb3)
 clear hb3 Z3 ld HX2 HB2
 rcases hr3 with rfl | ⟨p3, q3, s3⟩
 · go_wp2
   go_ret
   exact ⟨⟨-1, rfl, .inl rfl⟩, HB3.o⟩
 have n3 : ¬ r3 < 0 := by omega
 have HS3 := iH s3
 clear s3
 have ld := HX3.o.2 5 _ rfl
 have Z4 := HZ4.o
 go_wp2_with fail
 refine (Z4 _ r3 p3 q3 HB3.o).mono ?_
 rintro e w4 ⟨⟨r4, rfl, hr4⟩, hb4⟩
 have HX4 := iH (HX3.o.below hb4)
 have HB4 := iH (bl_trans HB3.o hb4)
 clear hb4 Z4 ld HX3 HB3
 rcases hr4 with rfl | ⟨p4, q4, s4⟩
 · go_wp2
   go_ret
   exact ⟨⟨-1, rfl, .inl rfl⟩, HB4.o⟩
 have n4 : ¬ r4 < 0 := by omega
 have HS4 := iH s4
 clear s4
 go_wp2
 go_ret
 exact ⟨⟨r4, rfl, .inr ⟨p4, q4, (show r4 + (((x.sn + sumN x.sn (fun i => (x.sel i).wt)) + (x.bn + sumN x.bn (fun i => (x.body i).wt)) + (x.gn + sumN x.gn (fun i => (x.grp i).wt)) + (x.on + sumN x.on (fun i => (x.key i).wt)) : Nat) : Int) ≤ l by have a1 := HS1.o; have a2 := HS2.o; have a3 := HS3.o; have a4 := HS4.o; omega)⟩⟩, HB4.o⟩
end Go.Proofs.YthljoojcpbignaaGreatDoor
