/- Texts put together: TreB -/
import Derived.Test.YtpgbhkkdbkecoaaNk04
import Derived.Test.YtpgbhkkdbkecoaaNk01
import Derived.Deep.MidRow
/- TreB -/
namespace Go.Proofs.Ytpgbhkkdbkecoaa
open Go.RowKit Go.Deep
set_option maxRecDepth 100000

/-- What measuring answers: -1, or what is left, and then all is small. -/
def Sz (P : Prop) (e : Ending) : Prop := ∃ r : Int, e = .returned (.int .i64 r) ∧ (r = -1 ∨ 0 ≤ r ∧ r ≤ 1048576 ∧ P)
/-- What lies in a box. -/
def Box (w : World) (b : Nat) (L : List Value) : Prop := b < w.heap.size ∧ ∀ c u, L[c]? = some u → w.cell? ⟨b, c, none⟩ = some u
theorem Box.new (w : World) (vs : Array Value) (t : TypeId) (fr : Nat × Nat) : Box (w.alloc (.cells vs t fr)) w.heap.size vs.toList := by
  refine ⟨by simp, fun c u hu => ?_⟩
  rw [Array.getElem?_toList] at hu
  have h : (w.alloc (.cells vs t fr)).heap[w.heap.size]? = some (.cells vs t fr) := by
    show (w.heap.push _)[w.heap.size]? = _
    rw [Array.getElem?_push]
    simp
  simp only [World.cell?, h]
  exact hu
theorem Box.below {w w' : World} {b : Nat} {L : List Value} (h : Box w b L) (hb : Below w.heap.size w w') : Box w' b L := ⟨Nat.lt_of_lt_of_le h.1 hb.size, fun c u hu => (hb.cell (p := ⟨b, c, none⟩) h.1).trans (h.2 c u hu)⟩
/-- A part of a box, read as a whole. -/
theorem Box.range {w : World} {b : Nat} {L : List Value} (h : Box w b L) (c : Nat) (cs : List Value) (hcs : (L.drop c).take cs.length = cs) : w.rangeAt b c cs := by
  intro j v hv
  refine h.2 (c + j) v ?_
  rw [← hcs, List.getElem?_take] at hv
  split at hv
  · rwa [List.getElem?_drop] at hv
  · cases hv
theorem szByteS_sz (x : SL) (l : Int) (w : World) (h1 : 0 ≤ l) (h2 : l ≤ 1048576) (h3 : x.len ≤ 9223372036854775807) :
    Calls Try.prog 17 #[.slice x.a x.len x.cap, .int .i64 l] w fun e w' => Sz (x.len ≤ 1048576) e ∧ Below w.heap.size w w' := by
  refine (szByteS_any x.a x.len x.cap l w h1 h2 h3).mono ?_
  rintro e w' ⟨rfl, rfl⟩
  refine ⟨⟨_, rfl, ?_⟩, Below.refl _ _⟩
  by_cases h : l < x.len
  · exact .inl (if_pos h)
  · rw [if_neg h]
    exact .inr ⟨by omega, by omega, by omega⟩
theorem szTerm_sz (x : TB) (l : Int) (w : World) (h1 : 0 ≤ l) (h2 : l ≤ 1048576) (h3 : x.t.len ≤ 9223372036854775807) :
    Calls Try.prog 44 #[.agg #[.int .i64 x.t.k, .slice x.t.a x.t.len x.t.cap, .int .i64 x.t.n, .int .i64 x.t.s], .int .i64 l] w fun e w' => Sz (x.t.len ≤ 1048576) e ∧ Below w.heap.size w w' := by
  refine (szTerm_any x.t.k x.t.n x.t.s x.t.a x.t.len x.t.cap l w h1 h2 h3).mono ?_
  rintro e w' ⟨rfl, hb⟩
  refine ⟨⟨_, rfl, ?_⟩, hb⟩
  unfold leftOf
  by_cases h : l < x.t.len
  · exact .inl (if_pos h)
  · rw [if_neg h]
    exact .inr ⟨by omega, by omega, by omega⟩

theorem szItem_any (x : IB) (l : Int) (w : World) (h1 : 0 ≤ l) (h2 : l ≤ 1048576) (hc : x.came w) :
    Calls Try.prog 61 #[.agg #[.slice x.v.a x.v.len x.v.cap, .int .i64 x.t.t.k, .slice x.t.t.a x.t.t.len x.t.t.cap, .int .i64 x.t.t.n, .int .i64 x.t.t.s], .int .i64 l] w fun e w' => Sz x.small e ∧ Below w.heap.size w w' := by
  have HZ1 : Hid (∀ (W : World) (l : Int), 0 ≤ l → l ≤ 1048576 → Below w.heap.size w W → Calls Try.prog 17 #[.slice x.v.a x.v.len x.v.cap, .int .i64 l] W fun e w' => Sz (x.v.len ≤ 1048576) e ∧ Below W.heap.size W w') := fun W l h1 h2 hb => szByteS_sz x.v l W h1 h2 hc.1.1
  have HZ2 : Hid (∀ (W : World) (l : Int), 0 ≤ l → l ≤ 1048576 → Below w.heap.size w W → Calls Try.prog 44 #[.agg #[.int .i64 x.t.t.k, .slice x.t.t.a x.t.t.len x.t.t.cap, .int .i64 x.t.t.n, .int .i64 x.t.t.s], .int .i64 l] W fun e w' => Sz (x.t.t.len ≤ 1048576) e ∧ Below W.heap.size W w') := fun W l h1 h2 hb => szTerm_sz x.t l W h1 h2 hc.2.1.1
  clear hc
  go_enter Try.func61, Try.ntmps61
  have Z1 := HZ1.out
  go_wp2_with fail
  refine (Z1 _ l h1 h2 (bl_a _)).mono ?_
  rintro e w1 ⟨⟨r1, rfl, hr1⟩, hb1⟩
  have HX1 : Hid (Box w1 w.heap.size [.slice x.v.a x.v.len x.v.cap, .int .i64 x.t.t.k, .slice x.t.t.a x.t.t.len x.t.t.cap, .int .i64 x.t.t.n, .int .i64 x.t.t.s]) := (Box.new w #[.slice x.v.a x.v.len x.v.cap, .int .i64 x.t.t.k, .slice x.t.t.a x.t.t.len x.t.t.cap, .int .i64 x.t.t.n, .int .i64 x.t.t.s] 48 _).below hb1
  have HB1 : Hid (Below w.heap.size w w1) := bl_trans (bl_a _) hb1
  clear hb1 Z1 
  rcases hr1 with rfl | ⟨p1, q1, s1⟩
  · go_wp2_with fail
    go_ret
    exact ⟨⟨-1, rfl, .inl rfl⟩, HB1.out⟩
  have n1 : ¬ r1 < 0 := by omega
  have HS1 : Hid (x.v.len ≤ 1048576) := s1
  clear s1
  have ld : w1.rangeAt w.heap.size 1 [.int .i64 x.t.t.k, .slice x.t.t.a x.t.t.len x.t.t.cap, .int .i64 x.t.t.n, .int .i64 x.t.t.s] := HX1.out.range 1 _ rfl
  have Z2 := HZ2.out
  go_wp2_with (refine wpList_load_mid rfl 25 _ rfl w.heap.size 1 rfl [.int .i64 x.t.t.k, .slice x.t.t.a x.t.t.len x.t.t.cap, .int .i64 x.t.t.n, .int .i64 x.t.t.s] _ ld Try.underlying25 rfl (by kernel_rfl) ?_; try simp only [Act.put, List.setIfInBounds_toArray, List.set_cons_zero, List.set_cons_succ])
  refine (Z2 _ r1 p1 q1 HB1.out).mono ?_
  rintro e w2 ⟨⟨r2, rfl, hr2⟩, hb2⟩
  have HX2 : Hid (Box w2 w.heap.size [.slice x.v.a x.v.len x.v.cap, .int .i64 x.t.t.k, .slice x.t.t.a x.t.t.len x.t.t.cap, .int .i64 x.t.t.n, .int .i64 x.t.t.s]) := HX1.out.below hb2
  have HB2 : Hid (Below w.heap.size w w2) := bl_trans HB1.out hb2
  clear hb2 Z2 ld HX1 HB1
  rcases hr2 with rfl | ⟨p2, q2, s2⟩
  · go_wp2_with fail
    go_ret
    exact ⟨⟨-1, rfl, .inl rfl⟩, HB2.out⟩
  have n2 : ¬ r2 < 0 := by omega
  have HS2 : Hid (x.t.t.len ≤ 1048576) := s2
  clear s2
  go_wp2_with fail
  go_ret
  exact ⟨⟨r2, rfl, .inr ⟨p2, q2, HS1.out, HS2.out⟩⟩, HB2.out⟩
theorem szPat_any (x : PB) (l : Int) (w : World) (h1 : 0 ≤ l) (h2 : l ≤ 1048576) (hc : x.came w) :
    Calls Try.prog 34 #[.agg #[.slice x.s.v.a x.s.v.len x.s.v.cap, .int .i64 x.s.t.t.k, .slice x.s.t.t.a x.s.t.t.len x.s.t.t.cap, .int .i64 x.s.t.t.n, .int .i64 x.s.t.t.s, .slice x.p.v.a x.p.v.len x.p.v.cap, .int .i64 x.p.t.t.k, .slice x.p.t.t.a x.p.t.t.len x.p.t.t.cap, .int .i64 x.p.t.t.n, .int .i64 x.p.t.t.s, .slice x.o.v.a x.o.v.len x.o.v.cap, .int .i64 x.o.t.t.k, .slice x.o.t.t.a x.o.t.t.len x.o.t.t.cap, .int .i64 x.o.t.t.n, .int .i64 x.o.t.t.s], .int .i64 l] w fun e w' => Sz x.small e ∧ Below w.heap.size w w' := by
  have HZ1 : Hid (∀ (W : World) (l : Int), 0 ≤ l → l ≤ 1048576 → Below w.heap.size w W → Calls Try.prog 61 #[.agg #[.slice x.s.v.a x.s.v.len x.s.v.cap, .int .i64 x.s.t.t.k, .slice x.s.t.t.a x.s.t.t.len x.s.t.t.cap, .int .i64 x.s.t.t.n, .int .i64 x.s.t.t.s], .int .i64 l] W fun e w' => Sz (x.s.small) e ∧ Below W.heap.size W w') := fun W l h1 h2 hb => szItem_any x.s l W h1 h2 (hc.1.below hb)
  have HZ2 : Hid (∀ (W : World) (l : Int), 0 ≤ l → l ≤ 1048576 → Below w.heap.size w W → Calls Try.prog 61 #[.agg #[.slice x.p.v.a x.p.v.len x.p.v.cap, .int .i64 x.p.t.t.k, .slice x.p.t.t.a x.p.t.t.len x.p.t.t.cap, .int .i64 x.p.t.t.n, .int .i64 x.p.t.t.s], .int .i64 l] W fun e w' => Sz (x.p.small) e ∧ Below W.heap.size W w') := fun W l h1 h2 hb => szItem_any x.p l W h1 h2 (hc.2.1.below hb)
  have HZ3 : Hid (∀ (W : World) (l : Int), 0 ≤ l → l ≤ 1048576 → Below w.heap.size w W → Calls Try.prog 61 #[.agg #[.slice x.o.v.a x.o.v.len x.o.v.cap, .int .i64 x.o.t.t.k, .slice x.o.t.t.a x.o.t.t.len x.o.t.t.cap, .int .i64 x.o.t.t.n, .int .i64 x.o.t.t.s], .int .i64 l] W fun e w' => Sz (x.o.small) e ∧ Below W.heap.size W w') := fun W l h1 h2 hb => szItem_any x.o l W h1 h2 (hc.2.2.below hb)
  clear hc
  go_enter Try.func34, Try.ntmps34
  have Z1 := HZ1.out
  go_wp2_with fail
  refine (Z1 _ l h1 h2 (bl_a _)).mono ?_
  rintro e w1 ⟨⟨r1, rfl, hr1⟩, hb1⟩
  have HX1 : Hid (Box w1 w.heap.size [.slice x.s.v.a x.s.v.len x.s.v.cap, .int .i64 x.s.t.t.k, .slice x.s.t.t.a x.s.t.t.len x.s.t.t.cap, .int .i64 x.s.t.t.n, .int .i64 x.s.t.t.s, .slice x.p.v.a x.p.v.len x.p.v.cap, .int .i64 x.p.t.t.k, .slice x.p.t.t.a x.p.t.t.len x.p.t.t.cap, .int .i64 x.p.t.t.n, .int .i64 x.p.t.t.s, .slice x.o.v.a x.o.v.len x.o.v.cap, .int .i64 x.o.t.t.k, .slice x.o.t.t.a x.o.t.t.len x.o.t.t.cap, .int .i64 x.o.t.t.n, .int .i64 x.o.t.t.s]) := (Box.new w #[.slice x.s.v.a x.s.v.len x.s.v.cap, .int .i64 x.s.t.t.k, .slice x.s.t.t.a x.s.t.t.len x.s.t.t.cap, .int .i64 x.s.t.t.n, .int .i64 x.s.t.t.s, .slice x.p.v.a x.p.v.len x.p.v.cap, .int .i64 x.p.t.t.k, .slice x.p.t.t.a x.p.t.t.len x.p.t.t.cap, .int .i64 x.p.t.t.n, .int .i64 x.p.t.t.s, .slice x.o.v.a x.o.v.len x.o.v.cap, .int .i64 x.o.t.t.k, .slice x.o.t.t.a x.o.t.t.len x.o.t.t.cap, .int .i64 x.o.t.t.n, .int .i64 x.o.t.t.s] 50 _).below hb1
  have HB1 : Hid (Below w.heap.size w w1) := bl_trans (bl_a _) hb1
  clear hb1 Z1 
  rcases hr1 with rfl | ⟨p1, q1, s1⟩
  · go_wp2_with fail
    go_ret
    exact ⟨⟨-1, rfl, .inl rfl⟩, HB1.out⟩
  have n1 : ¬ r1 < 0 := by omega
  have HS1 : Hid (x.s.small) := s1
  clear s1
  have ld : w1.rangeAt w.heap.size 5 [.slice x.p.v.a x.p.v.len x.p.v.cap, .int .i64 x.p.t.t.k, .slice x.p.t.t.a x.p.t.t.len x.p.t.t.cap, .int .i64 x.p.t.t.n, .int .i64 x.p.t.t.s] := HX1.out.range 5 _ rfl
  have Z2 := HZ2.out
  go_wp2_with (refine wpList_load_mid rfl 48 _ rfl w.heap.size 5 rfl [.slice x.p.v.a x.p.v.len x.p.v.cap, .int .i64 x.p.t.t.k, .slice x.p.t.t.a x.p.t.t.len x.p.t.t.cap, .int .i64 x.p.t.t.n, .int .i64 x.p.t.t.s] _ ld Try.underlying48 rfl (by kernel_rfl) ?_; try simp only [Act.put, List.setIfInBounds_toArray, List.set_cons_zero, List.set_cons_succ])
  refine (Z2 _ r1 p1 q1 HB1.out).mono ?_
  rintro e w2 ⟨⟨r2, rfl, hr2⟩, hb2⟩
  have HX2 : Hid (Box w2 w.heap.size [.slice x.s.v.a x.s.v.len x.s.v.cap, .int .i64 x.s.t.t.k, .slice x.s.t.t.a x.s.t.t.len x.s.t.t.cap, .int .i64 x.s.t.t.n, .int .i64 x.s.t.t.s, .slice x.p.v.a x.p.v.len x.p.v.cap, .int .i64 x.p.t.t.k, .slice x.p.t.t.a x.p.t.t.len x.p.t.t.cap, .int .i64 x.p.t.t.n, .int .i64 x.p.t.t.s, .slice x.o.v.a x.o.v.len x.o.v.cap, .int .i64 x.o.t.t.k, .slice x.o.t.t.a x.o.t.t.len x.o.t.t.cap, .int .i64 x.o.t.t.n, .int .i64 x.o.t.t.s]) := HX1.out.below hb2
  have HB2 : Hid (Below w.heap.size w w2) := bl_trans HB1.out hb2
  clear hb2 Z2 ld HX1 HB1
  rcases hr2 with rfl | ⟨p2, q2, s2⟩
  · go_wp2_with fail
    go_ret
    exact ⟨⟨-1, rfl, .inl rfl⟩, HB2.out⟩
  have n2 : ¬ r2 < 0 := by omega
  have HS2 : Hid (x.p.small) := s2
  clear s2
  have ld : w2.rangeAt w.heap.size 10 [.slice x.o.v.a x.o.v.len x.o.v.cap, .int .i64 x.o.t.t.k, .slice x.o.t.t.a x.o.t.t.len x.o.t.t.cap, .int .i64 x.o.t.t.n, .int .i64 x.o.t.t.s] := HX2.out.range 10 _ rfl
  have Z3 := HZ3.out
  go_wp2_with (refine wpList_load_mid rfl 48 _ rfl w.heap.size 10 rfl [.slice x.o.v.a x.o.v.len x.o.v.cap, .int .i64 x.o.t.t.k, .slice x.o.t.t.a x.o.t.t.len x.o.t.t.cap, .int .i64 x.o.t.t.n, .int .i64 x.o.t.t.s] _ ld Try.underlying48 rfl (by kernel_rfl) ?_; try simp only [Act.put, List.setIfInBounds_toArray, List.set_cons_zero, List.set_cons_succ])
  refine (Z3 _ r2 p2 q2 HB2.out).mono ?_
  rintro e w3 ⟨⟨r3, rfl, hr3⟩, hb3⟩
  have HX3 : Hid (Box w3 w.heap.size [.slice x.s.v.a x.s.v.len x.s.v.cap, .int .i64 x.s.t.t.k, .slice x.s.t.t.a x.s.t.t.len x.s.t.t.cap, .int .i64 x.s.t.t.n, .int .i64 x.s.t.t.s, .slice x.p.v.a x.p.v.len x.p.v.cap, .int .i64 x.p.t.t.k, .slice x.p.t.t.a x.p.t.t.len x.p.t.t.cap, .int .i64 x.p.t.t.n, .int .i64 x.p.t.t.s, .slice x.o.v.a x.o.v.len x.o.v.cap, .int .i64 x.o.t.t.k, .slice x.o.t.t.a x.o.t.t.len x.o.t.t.cap, .int .i64 x.o.t.t.n, .int .i64 x.o.t.t.s]) := HX2.out.below hb3
  have HB3 : Hid (Below w.heap.size w w3) := bl_trans HB2.out hb3
  clear hb3 Z3 ld HX2 HB2
  rcases hr3 with rfl | ⟨p3, q3, s3⟩
  · go_wp2_with fail
    go_ret
    exact ⟨⟨-1, rfl, .inl rfl⟩, HB3.out⟩
  have n3 : ¬ r3 < 0 := by omega
  have HS3 : Hid (x.o.small) := s3
  clear s3
  go_wp2_with fail
  go_ret
  exact ⟨⟨r3, rfl, .inr ⟨p3, q3, HS1.out, HS2.out, HS3.out⟩⟩, HB3.out⟩
set_option maxHeartbeats 2000000 in
theorem szExprS_of (a : Option Addr) (cap n : Nat) (kid : Nat → ET) (l : Int) (w : World) (h1 : 0 ≤ l) (h2 : l ≤ 1048576) (hn : n ≤ 9223372036854775807) (hR : KRow 0 w 8 a n (fun i => (kid i).d.cells))
    (IH : ∀ i, i < n → ∀ (W : World) (l : Int), 0 ≤ l → l ≤ 1048576 → Below w.heap.size w W → Calls Try.prog 16 #[.agg #[.int .i64 (kid i).d.k, .int .i64 (kid i).d.op, .slice (kid i).d.v.a (kid i).d.v.len (kid i).d.v.cap, .int .i64 (kid i).d.t.t.k, .slice (kid i).d.t.t.a (kid i).d.t.t.len (kid i).d.t.t.cap, .int .i64 (kid i).d.t.t.n, .int .i64 (kid i).d.t.t.s, .slice (kid i).d.ka (kid i).d.n (kid i).d.kc], .int .i64 l] W fun e w' => Sz (kid i).small e ∧ Below W.heap.size W w') :
    Calls Try.prog 45 #[.slice a n cap, .int .i64 l] w fun e w' => Sz (n ≤ 1048576 ∧ ∀ i, i < n → (kid i).small) e ∧ Below w.heap.size w w' := by
  by_cases hbig : l < n
  · clear hR IH
    go_enter Try.func45, Try.ntmps45
    go_wp2
    go_ret
    exact ⟨⟨-1, rfl, .inl rfl⟩, Below.refl _ _⟩
  by_cases hn0 : n = 0
  · subst hn0
    clear hR IH hn hbig
    have hbig : ¬ l < 0 := by omega
    go_enter Try.func45, Try.ntmps45
    go_wp2
    refine wp_loop_rounds 1 ?_
    rw [rounds_succ]
    go_wp2
    go_ret
    exact ⟨⟨_, rfl, .inr ⟨by omega, by omega, by omega, fun i hi => absurd hi (Nat.not_lt_zero _)⟩⟩, Below.refl _ _⟩
  obtain ⟨b, off, rfl, _, hlt, hc⟩ := hR.resolve_left hn0
  have HC : Hid (∀ i, i < n → ∀ c u, ((kid i).d.cells)[c]? = some u → w.cell? ⟨b, off + i * 8 + c, none⟩ = some u) := hc
  have HI : Hid (∀ i, i < n → ∀ (W : World) (l : Int), 0 ≤ l → l ≤ 1048576 → Below w.heap.size w W → Calls Try.prog 16 #[.agg #[.int .i64 (kid i).d.k, .int .i64 (kid i).d.op, .slice (kid i).d.v.a (kid i).d.v.len (kid i).d.v.cap, .int .i64 (kid i).d.t.t.k, .slice (kid i).d.t.t.a (kid i).d.t.t.len (kid i).d.t.t.cap, .int .i64 (kid i).d.t.t.n, .int .i64 (kid i).d.t.t.s, .slice (kid i).d.ka (kid i).d.n (kid i).d.kc], .int .i64 l] W fun e w' => Sz (kid i).small e ∧ Below W.heap.size W w') := IH
  clear hR hc IH
  go_enter Try.func45, Try.ntmps45
  go_wp2
  go_loopw [1, 5] (fun x i wr => ∃ (k : Nat) (r : Int), k ≤ n ∧ i = .int .i64 k ∧ x = .int .i64 r ∧ 0 ≤ r ∧ r ≤ 1048576 ∧ Hid (Below w.heap.size w wr) ∧ Hid (∀ j, j < k → (kid j).small))
    (fun _ i _ => n - (intOf i).toNat)
  case atStart => exact ⟨0, _, Nat.zero_le _, rfl, rfl, by omega, by omega, Below.refl _ _, fun j hj => absurd hj (Nat.not_lt_zero _)⟩
  case round =>
    obtain ⟨k, r, hk, rfl, rfl, hr0, hr1, HB, HH⟩ := hrel
    by_cases hlk : k < n
    · have hcx : ∀ c u, ((kid k).d.cells)[c]? = some u → wr.cell? ⟨b, off + k * 8 + c, none⟩ = some u := fun c u hu => (HB.out.cell (p := ⟨b, off + k * 8 + c, none⟩) hlt).trans (HC.out k hlk c u hu)
      have hin : (Try.prog.info? 28).map (·.size) = some 8 := by kernel_rfl
      have Z := HI.out k hlk
      go_wp2_with (refine wpList_load_mid rfl 28 _ rfl b (off + k * 8) rfl [.int .i64 (kid k).d.k, .int .i64 (kid k).d.op, .slice (kid k).d.v.a (kid k).d.v.len (kid k).d.v.cap, .int .i64 (kid k).d.t.t.k, .slice (kid k).d.t.t.a (kid k).d.t.t.len (kid k).d.t.t.cap, .int .i64 (kid k).d.t.t.n, .int .i64 (kid k).d.t.t.s, .slice (kid k).d.ka (kid k).d.n (kid k).d.kc] _ hcx Try.underlying28 rfl hin ?_; try simp only [Act.put, List.setIfInBounds_toArray, List.set_cons_zero, List.set_cons_succ])
      refine (Z _ r hr0 hr1 HB.out).mono ?_
      rintro e w2 ⟨⟨q, rfl, hq⟩, hb2⟩
      have HB2 : Hid (Below w.heap.size w w2) := bl_trans HB.out hb2
      clear hcx hin Z hb2 HB
      rcases hq with rfl | ⟨z1, z2, z3⟩
      · go_wp2
        go_ret
        exact ⟨⟨-1, rfl, .inl rfl⟩, HB2.out⟩
      · have HZ3 : Hid ((kid k).small) := z3
        have nq : ¬ q < 0 := by omega
        clear z3
        go_wp2
        go_roundw
        case rel =>
          refine ⟨k + 1, q, by omega, by go_num, rfl, by omega, by omega, HB2, fun j hj => ?_⟩
          by_cases e : j = k
          · subst e
            exact HZ3.out
          · exact HH.out j (by omega)
        case measure => simp [intOf]; omega
    · obtain rfl : k = n := by omega
      go_wp2
      go_ret
      exact ⟨⟨r, rfl, .inr ⟨hr0, hr1, by omega, HH.out⟩⟩, HB.out⟩

set_option maxHeartbeats 1000000 in
theorem szExpr_any (e : ET) : ∀ (l : Int) (w : World), 0 ≤ l → l ≤ 1048576 → e.came w → Calls Try.prog 16 #[.agg #[.int .i64 e.d.k, .int .i64 e.d.op, .slice e.d.v.a e.d.v.len e.d.v.cap, .int .i64 e.d.t.t.k, .slice e.d.t.t.a e.d.t.t.len e.d.t.t.cap, .int .i64 e.d.t.t.n, .int .i64 e.d.t.t.s, .slice e.d.ka e.d.n e.d.kc], .int .i64 l] w fun r w' => Sz e.small r ∧ Below w.heap.size w w' := by
  induction e with
  | nil => exact fun _ _ _ _ h => False.elim h
  | mk d kid ih =>
    intro l w h1 h2 hc
    show Calls Try.prog 16 #[.agg #[.int .i64 d.k, .int .i64 d.op, .slice d.v.a d.v.len d.v.cap, .int .i64 d.t.t.k, .slice d.t.t.a d.t.t.len d.t.t.cap, .int .i64 d.t.t.n, .int .i64 d.t.t.s, .slice d.ka d.n d.kc], .int .i64 l] w fun r w' => Sz (d.v.len ≤ 1048576 ∧ d.t.t.len ≤ 1048576 ∧ d.n ≤ 1048576 ∧ ∀ i, i < d.n → (kid i).small) r ∧ Below w.heap.size w w'
    obtain ⟨hv, ht, _, hn, hR, hk⟩ := hc
    have HZ1 : Hid (∀ (W : World) (l : Int), 0 ≤ l → l ≤ 1048576 → Below w.heap.size w W → Calls Try.prog 17 #[.slice d.v.a d.v.len d.v.cap, .int .i64 l] W fun e w' => Sz (d.v.len ≤ 1048576) e ∧ Below W.heap.size W w') := fun W l h1 h2 hb => szByteS_sz d.v l W h1 h2 hv.1
    have HZ2 : Hid (∀ (W : World) (l : Int), 0 ≤ l → l ≤ 1048576 → Below w.heap.size w W → Calls Try.prog 44 #[.agg #[.int .i64 d.t.t.k, .slice d.t.t.a d.t.t.len d.t.t.cap, .int .i64 d.t.t.n, .int .i64 d.t.t.s], .int .i64 l] W fun e w' => Sz (d.t.t.len ≤ 1048576) e ∧ Below W.heap.size W w') := fun W l h1 h2 hb => szTerm_sz d.t l W h1 h2 ht.1
    have HZ3 : Hid (∀ (W : World) (l : Int), 0 ≤ l → l ≤ 1048576 → Below w.heap.size w W → Calls Try.prog 45 #[.slice d.ka d.n d.kc, .int .i64 l] W fun e w' => Sz (d.n ≤ 1048576 ∧ ∀ i, i < d.n → (kid i).small) e ∧ Below W.heap.size W w') := fun W l h1 h2 hb => szExprS_of d.ka d.kc d.n kid l W h1 h2 hn (hR.upper (Upper.of_below hb)) fun i hi W' l' a1 a2 hW => ih i l' W' a1 a2 (ET.came.below (bl_trans hb hW) (hk i hi))
    clear hv ht hR hk ih hn
    go_enter Try.func16, Try.ntmps16
    have Z1 := HZ1.out
    go_wp2_with fail
    refine (Z1 _ l h1 h2 (bl_a _)).mono ?_
    rintro e w1 ⟨⟨r1, rfl, hr1⟩, hb1⟩
    have HX1 : Hid (Box w1 w.heap.size [.int .i64 d.k, .int .i64 d.op, .slice d.v.a d.v.len d.v.cap, .int .i64 d.t.t.k, .slice d.t.t.a d.t.t.len d.t.t.cap, .int .i64 d.t.t.n, .int .i64 d.t.t.s, .slice d.ka d.n d.kc]) := (Box.new w #[.int .i64 d.k, .int .i64 d.op, .slice d.v.a d.v.len d.v.cap, .int .i64 d.t.t.k, .slice d.t.t.a d.t.t.len d.t.t.cap, .int .i64 d.t.t.n, .int .i64 d.t.t.s, .slice d.ka d.n d.kc] 28 _).below hb1
    have HB1 : Hid (Below w.heap.size w w1) := bl_trans (bl_a _) hb1
    clear hb1 Z1 
    rcases hr1 with rfl | ⟨p1, q1, s1⟩
    · go_wp2_with fail
      go_ret
      exact ⟨⟨-1, rfl, .inl rfl⟩, HB1.out⟩
    have n1 : ¬ r1 < 0 := by omega
    have HS1 : Hid (d.v.len ≤ 1048576) := s1
    clear s1
    have ld : w1.rangeAt w.heap.size 3 [.int .i64 d.t.t.k, .slice d.t.t.a d.t.t.len d.t.t.cap, .int .i64 d.t.t.n, .int .i64 d.t.t.s] := HX1.out.range 3 _ rfl
    have Z2 := HZ2.out
    go_wp2_with (refine wpList_load_mid rfl 25 _ rfl w.heap.size 3 rfl [.int .i64 d.t.t.k, .slice d.t.t.a d.t.t.len d.t.t.cap, .int .i64 d.t.t.n, .int .i64 d.t.t.s] _ ld Try.underlying25 rfl (by kernel_rfl) ?_; try simp only [Act.put, List.setIfInBounds_toArray, List.set_cons_zero, List.set_cons_succ])
    refine (Z2 _ r1 p1 q1 HB1.out).mono ?_
    rintro e w2 ⟨⟨r2, rfl, hr2⟩, hb2⟩
    have HX2 : Hid (Box w2 w.heap.size [.int .i64 d.k, .int .i64 d.op, .slice d.v.a d.v.len d.v.cap, .int .i64 d.t.t.k, .slice d.t.t.a d.t.t.len d.t.t.cap, .int .i64 d.t.t.n, .int .i64 d.t.t.s, .slice d.ka d.n d.kc]) := HX1.out.below hb2
    have HB2 : Hid (Below w.heap.size w w2) := bl_trans HB1.out hb2
    clear hb2 Z2 ld HX1 HB1
    rcases hr2 with rfl | ⟨p2, q2, s2⟩
    · go_wp2_with fail
      go_ret
      exact ⟨⟨-1, rfl, .inl rfl⟩, HB2.out⟩
    have n2 : ¬ r2 < 0 := by omega
    have HS2 : Hid (d.t.t.len ≤ 1048576) := s2
    clear s2
    have ld := HX2.out.2 7 _ rfl
    have Z3 := HZ3.out
    go_wp2_with fail
    refine (Z3 _ r2 p2 q2 HB2.out).mono ?_
    rintro e w3 ⟨⟨r3, rfl, hr3⟩, hb3⟩
    have HX3 : Hid (Box w3 w.heap.size [.int .i64 d.k, .int .i64 d.op, .slice d.v.a d.v.len d.v.cap, .int .i64 d.t.t.k, .slice d.t.t.a d.t.t.len d.t.t.cap, .int .i64 d.t.t.n, .int .i64 d.t.t.s, .slice d.ka d.n d.kc]) := HX2.out.below hb3
    have HB3 : Hid (Below w.heap.size w w3) := bl_trans HB2.out hb3
    clear hb3 Z3 ld HX2 HB2
    rcases hr3 with rfl | ⟨p3, q3, s3⟩
    · go_wp2_with fail
      go_ret
      exact ⟨⟨-1, rfl, .inl rfl⟩, HB3.out⟩
    have n3 : ¬ r3 < 0 := by omega
    have HS3 : Hid (d.n ≤ 1048576 ∧ ∀ i, i < d.n → (kid i).small) := s3
    clear s3
    go_wp2_with fail
    go_ret
    exact ⟨⟨r3, rfl, .inr ⟨p3, q3, HS1.out, HS2.out, HS3.out⟩⟩, HB3.out⟩
set_option maxHeartbeats 2000000 in
theorem szTermS_sz (a : Option Addr) (cap : Nat) (tb : List TB) (l : Int) (w : World) (h1 : 0 ≤ l) (h2 : l ≤ 1048576) (hc : TCm w a tb) :
    Calls Try.prog 18 #[.slice a tb.length cap, .int .i64 l] w fun e w' => Sz (tb.length ≤ 1048576 ∧ ∀ x ∈ tb, x.t.len ≤ 1048576) e ∧ Below w.heap.size w w' := by
  obtain ⟨hR, hn, hl⟩ := hc
  obtain ⟨n, hnn⟩ : ∃ n, n = tb.length := ⟨_, rfl⟩
  have HN : Hid (n = tb.length) := hnn
  have HP : Hid (∀ k, k ≤ n → (∀ j x, j < k → tb[j]? = some x → x.t.len ≤ 1048576) → n ≤ 1048576 → k = n → tb.length ≤ 1048576 ∧ ∀ x ∈ tb, x.t.len ≤ 1048576) := fun k hk hh h2 e => ⟨by omega, fun x hx => by
    obtain ⟨j, hj, rfl⟩ := List.mem_iff_getElem.1 hx
    exact hh j _ (by omega) (List.getElem?_eq_getElem hj)⟩
  obtain ⟨P, hP⟩ : ∃ P, P = (tb.length ≤ 1048576 ∧ ∀ x ∈ tb, x.t.len ≤ 1048576) := ⟨_, rfl⟩
  rw [← hP] at HP
  rw [← hnn] at hn
  rw [← hP, ← hnn]
  by_cases hbig : l < n
  · clear hR hl
    go_enter Try.func18, Try.ntmps18
    go_wp2
    go_ret
    exact ⟨⟨-1, rfl, .inl rfl⟩, Below.refl _ _⟩
  by_cases hn0 : n = 0
  · have ht : tb = [] := List.eq_nil_of_length_eq_zero (by omega)
    subst hn0
    have HP0 : Hid P := HP.out 0 (by omega) (fun j x hj => by omega) (by omega) rfl
    clear hR hl hnn HN hn hbig ht HP hP
    have hbig : ¬ l < 0 := by omega
    go_enter Try.func18, Try.ntmps18
    go_wp2
    refine wp_loop_rounds 1 ?_
    rw [rounds_succ]
    go_wp2
    go_ret
    exact ⟨⟨_, rfl, .inr ⟨by omega, by omega, HP0.out⟩⟩, Below.refl _ _⟩
  have ht0 : tb ≠ [] := by
    intro e
    rw [e] at hnn
    exact hn0 (by simpa using hnn)
  obtain ⟨b, off, rfl, hlt, hc⟩ := hR.resolve_left ht0
  have HC : Hid (∀ j u, (flat4 tb)[j]? = some u → w.cell? ⟨b, off + j, none⟩ = some u) := hc
  have HL : Hid (∀ x ∈ tb, x.t.len ≤ 9223372036854775807) := fun x hx => (hl x hx).1.1
  clear hR hl hc hnn ht0 hP
  go_enter Try.func18, Try.ntmps18
  go_wp2
  go_loopw [1, 5] (fun x i wr => ∃ (k : Nat) (r : Int), k ≤ n ∧ i = .int .i64 k ∧ x = .int .i64 r ∧ 0 ≤ r ∧ r ≤ 1048576 ∧ Hid (Below w.heap.size w wr) ∧ Hid (∀ j x, j < k → tb[j]? = some x → x.t.len ≤ 1048576))
    (fun _ i _ => n - (intOf i).toNat)
  case atStart => exact ⟨0, _, Nat.zero_le _, rfl, rfl, by omega, by omega, Below.refl _ _, fun j x hj => by omega⟩
  case round =>
    obtain ⟨k, r, hk, rfl, rfl, hr0, hr1, HB, HH⟩ := hrel
    by_cases hlk : k < n
    · have hkl : k < tb.length := by rw [← HN.out]; exact hlk
      obtain ⟨x, hx⟩ : ∃ x, x = tb[k] := ⟨_, rfl⟩
      have HX : Hid (tb[k]? = some x) := (show tb[k]? = some x by rw [hx]; exact List.getElem?_eq_getElem hkl)
      have hcx := TRow.at (l := tb) (b := b) (off := off) (w := wr) (fun j u hu => (HB.out.cell (p := ⟨b, off + j, none⟩) hlt).trans (HC.out j u hu)) k hkl
      rw [← hx] at hcx
      obtain ⟨x0, x1, x2, x3⟩ := hcx
      have Z := fun w => szTerm_sz x r w hr0 hr1 (HL.out x (List.mem_of_getElem? HX.out))
      clear hx hkl
      go_wp2_with fail
      refine (Z _).mono ?_
      rintro e w2 ⟨⟨q, rfl, hq⟩, hb2⟩
      have HB2 : Hid (Below w.heap.size w w2) := bl_trans HB.out hb2
      clear x0 x1 x2 x3 Z hb2 HB
      rcases hq with rfl | ⟨z1, z2, z3⟩
      · go_wp2
        go_ret
        exact ⟨⟨-1, rfl, .inl rfl⟩, HB2.out⟩
      · have HZ1 : Hid (x.t.len ≤ 1048576) := z3
        have nq : ¬ q < 0 := by omega
        clear z3
        go_wp2
        go_roundw
        case rel =>
          refine ⟨k + 1, q, by omega, by go_num, rfl, by omega, by omega, HB2, fun j y hj hy => ?_⟩
          by_cases e : j = k
          · subst e
            rw [HX.out] at hy
            cases hy
            exact HZ1.out
          · exact HH.out j y (by omega) hy
        case measure => simp [intOf]; omega
    · obtain rfl : k = n := by omega
      go_wp2
      go_ret
      exact ⟨⟨r, rfl, .inr ⟨hr0, hr1, HP.out k (by omega) HH.out (by omega) rfl⟩⟩, HB.out⟩

set_option maxHeartbeats 2000000 in
theorem szPlanS_of (a : Option Addr) (cap n : Nat) (kid : Nat → PT) (l : Int) (w : World) (h1 : 0 ≤ l) (h2 : l ≤ 1048576) (hn : n ≤ 9223372036854775807) (hR : KRow 0 w 28 a n (fun i => (kid i).d.cells))
    (IH : ∀ i, i < n → ∀ (W : World) (l : Int), 0 ≤ l → l ≤ 1048576 → Below w.heap.size w W → Calls Try.prog 10 #[.agg #[.int .i64 (kid i).d.k, .int .i64 (kid i).d.ord, .slice (kid i).d.p.s.v.a (kid i).d.p.s.v.len (kid i).d.p.s.v.cap, .int .i64 (kid i).d.p.s.t.t.k, .slice (kid i).d.p.s.t.t.a (kid i).d.p.s.t.t.len (kid i).d.p.s.t.t.cap, .int .i64 (kid i).d.p.s.t.t.n, .int .i64 (kid i).d.p.s.t.t.s, .slice (kid i).d.p.p.v.a (kid i).d.p.p.v.len (kid i).d.p.p.v.cap, .int .i64 (kid i).d.p.p.t.t.k, .slice (kid i).d.p.p.t.t.a (kid i).d.p.p.t.t.len (kid i).d.p.p.t.t.cap, .int .i64 (kid i).d.p.p.t.t.n, .int .i64 (kid i).d.p.p.t.t.s, .slice (kid i).d.p.o.v.a (kid i).d.p.o.v.len (kid i).d.p.o.v.cap, .int .i64 (kid i).d.p.o.t.t.k, .slice (kid i).d.p.o.t.t.a (kid i).d.p.o.t.t.len (kid i).d.p.o.t.t.cap, .int .i64 (kid i).d.p.o.t.t.n, .int .i64 (kid i).d.p.o.t.t.s, .int .i64 (kid i).d.e.d.k, .int .i64 (kid i).d.e.d.op, .slice (kid i).d.e.d.v.a (kid i).d.e.d.v.len (kid i).d.e.d.v.cap, .int .i64 (kid i).d.e.d.t.t.k, .slice (kid i).d.e.d.t.t.a (kid i).d.e.d.t.t.len (kid i).d.e.d.t.t.cap, .int .i64 (kid i).d.e.d.t.t.n, .int .i64 (kid i).d.e.d.t.t.s, .slice (kid i).d.e.d.ka (kid i).d.e.d.n (kid i).d.e.d.kc, .slice (kid i).d.v.a (kid i).d.v.len (kid i).d.v.cap, .slice (kid i).d.ta (kid i).d.tb.length (kid i).d.tc, .slice (kid i).d.ka (kid i).d.n (kid i).d.kc], .int .i64 l] W fun e w' => Sz (kid i).small e ∧ Below W.heap.size W w') :
    Calls Try.prog 35 #[.slice a n cap, .int .i64 l] w fun e w' => Sz (n ≤ 1048576 ∧ ∀ i, i < n → (kid i).small) e ∧ Below w.heap.size w w' := by
  by_cases hbig : l < n
  · clear hR IH
    go_enter Try.func35, Try.ntmps35
    go_wp2
    go_ret
    exact ⟨⟨-1, rfl, .inl rfl⟩, Below.refl _ _⟩
  by_cases hn0 : n = 0
  · subst hn0
    clear hR IH hn hbig
    have hbig : ¬ l < 0 := by omega
    go_enter Try.func35, Try.ntmps35
    go_wp2
    refine wp_loop_rounds 1 ?_
    rw [rounds_succ]
    go_wp2
    go_ret
    exact ⟨⟨_, rfl, .inr ⟨by omega, by omega, by omega, fun i hi => absurd hi (Nat.not_lt_zero _)⟩⟩, Below.refl _ _⟩
  obtain ⟨b, off, rfl, _, hlt, hc⟩ := hR.resolve_left hn0
  have HC : Hid (∀ i, i < n → ∀ c u, ((kid i).d.cells)[c]? = some u → w.cell? ⟨b, off + i * 28 + c, none⟩ = some u) := hc
  have HI : Hid (∀ i, i < n → ∀ (W : World) (l : Int), 0 ≤ l → l ≤ 1048576 → Below w.heap.size w W → Calls Try.prog 10 #[.agg #[.int .i64 (kid i).d.k, .int .i64 (kid i).d.ord, .slice (kid i).d.p.s.v.a (kid i).d.p.s.v.len (kid i).d.p.s.v.cap, .int .i64 (kid i).d.p.s.t.t.k, .slice (kid i).d.p.s.t.t.a (kid i).d.p.s.t.t.len (kid i).d.p.s.t.t.cap, .int .i64 (kid i).d.p.s.t.t.n, .int .i64 (kid i).d.p.s.t.t.s, .slice (kid i).d.p.p.v.a (kid i).d.p.p.v.len (kid i).d.p.p.v.cap, .int .i64 (kid i).d.p.p.t.t.k, .slice (kid i).d.p.p.t.t.a (kid i).d.p.p.t.t.len (kid i).d.p.p.t.t.cap, .int .i64 (kid i).d.p.p.t.t.n, .int .i64 (kid i).d.p.p.t.t.s, .slice (kid i).d.p.o.v.a (kid i).d.p.o.v.len (kid i).d.p.o.v.cap, .int .i64 (kid i).d.p.o.t.t.k, .slice (kid i).d.p.o.t.t.a (kid i).d.p.o.t.t.len (kid i).d.p.o.t.t.cap, .int .i64 (kid i).d.p.o.t.t.n, .int .i64 (kid i).d.p.o.t.t.s, .int .i64 (kid i).d.e.d.k, .int .i64 (kid i).d.e.d.op, .slice (kid i).d.e.d.v.a (kid i).d.e.d.v.len (kid i).d.e.d.v.cap, .int .i64 (kid i).d.e.d.t.t.k, .slice (kid i).d.e.d.t.t.a (kid i).d.e.d.t.t.len (kid i).d.e.d.t.t.cap, .int .i64 (kid i).d.e.d.t.t.n, .int .i64 (kid i).d.e.d.t.t.s, .slice (kid i).d.e.d.ka (kid i).d.e.d.n (kid i).d.e.d.kc, .slice (kid i).d.v.a (kid i).d.v.len (kid i).d.v.cap, .slice (kid i).d.ta (kid i).d.tb.length (kid i).d.tc, .slice (kid i).d.ka (kid i).d.n (kid i).d.kc], .int .i64 l] W fun e w' => Sz (kid i).small e ∧ Below W.heap.size W w') := IH
  clear hR hc IH
  go_enter Try.func35, Try.ntmps35
  go_wp2
  go_loopw [1, 5] (fun x i wr => ∃ (k : Nat) (r : Int), k ≤ n ∧ i = .int .i64 k ∧ x = .int .i64 r ∧ 0 ≤ r ∧ r ≤ 1048576 ∧ Hid (Below w.heap.size w wr) ∧ Hid (∀ j, j < k → (kid j).small))
    (fun _ i _ => n - (intOf i).toNat)
  case atStart => exact ⟨0, _, Nat.zero_le _, rfl, rfl, by omega, by omega, Below.refl _ _, fun j hj => absurd hj (Nat.not_lt_zero _)⟩
  case round =>
    obtain ⟨k, r, hk, rfl, rfl, hr0, hr1, HB, HH⟩ := hrel
    by_cases hlk : k < n
    · have hcx : ∀ c u, ((kid k).d.cells)[c]? = some u → wr.cell? ⟨b, off + k * 28 + c, none⟩ = some u := fun c u hu => (HB.out.cell (p := ⟨b, off + k * 28 + c, none⟩) hlt).trans (HC.out k hlk c u hu)
      have hin : (Try.prog.info? 53).map (·.size) = some 28 := by kernel_rfl
      have Z := HI.out k hlk
      go_wp2_with (refine wpList_load_mid rfl 53 _ rfl b (off + k * 28) rfl [.int .i64 (kid k).d.k, .int .i64 (kid k).d.ord, .slice (kid k).d.p.s.v.a (kid k).d.p.s.v.len (kid k).d.p.s.v.cap, .int .i64 (kid k).d.p.s.t.t.k, .slice (kid k).d.p.s.t.t.a (kid k).d.p.s.t.t.len (kid k).d.p.s.t.t.cap, .int .i64 (kid k).d.p.s.t.t.n, .int .i64 (kid k).d.p.s.t.t.s, .slice (kid k).d.p.p.v.a (kid k).d.p.p.v.len (kid k).d.p.p.v.cap, .int .i64 (kid k).d.p.p.t.t.k, .slice (kid k).d.p.p.t.t.a (kid k).d.p.p.t.t.len (kid k).d.p.p.t.t.cap, .int .i64 (kid k).d.p.p.t.t.n, .int .i64 (kid k).d.p.p.t.t.s, .slice (kid k).d.p.o.v.a (kid k).d.p.o.v.len (kid k).d.p.o.v.cap, .int .i64 (kid k).d.p.o.t.t.k, .slice (kid k).d.p.o.t.t.a (kid k).d.p.o.t.t.len (kid k).d.p.o.t.t.cap, .int .i64 (kid k).d.p.o.t.t.n, .int .i64 (kid k).d.p.o.t.t.s, .int .i64 (kid k).d.e.d.k, .int .i64 (kid k).d.e.d.op, .slice (kid k).d.e.d.v.a (kid k).d.e.d.v.len (kid k).d.e.d.v.cap, .int .i64 (kid k).d.e.d.t.t.k, .slice (kid k).d.e.d.t.t.a (kid k).d.e.d.t.t.len (kid k).d.e.d.t.t.cap, .int .i64 (kid k).d.e.d.t.t.n, .int .i64 (kid k).d.e.d.t.t.s, .slice (kid k).d.e.d.ka (kid k).d.e.d.n (kid k).d.e.d.kc, .slice (kid k).d.v.a (kid k).d.v.len (kid k).d.v.cap, .slice (kid k).d.ta (kid k).d.tb.length (kid k).d.tc, .slice (kid k).d.ka (kid k).d.n (kid k).d.kc] _ hcx Try.underlying53 rfl hin ?_; try simp only [Act.put, List.setIfInBounds_toArray, List.set_cons_zero, List.set_cons_succ])
      refine (Z _ r hr0 hr1 HB.out).mono ?_
      rintro e w2 ⟨⟨q, rfl, hq⟩, hb2⟩
      have HB2 : Hid (Below w.heap.size w w2) := bl_trans HB.out hb2
      clear hcx hin Z hb2 HB
      rcases hq with rfl | ⟨z1, z2, z3⟩
      · go_wp2
        go_ret
        exact ⟨⟨-1, rfl, .inl rfl⟩, HB2.out⟩
      · have HZ3 : Hid ((kid k).small) := z3
        have nq : ¬ q < 0 := by omega
        clear z3
        go_wp2
        go_roundw
        case rel =>
          refine ⟨k + 1, q, by omega, by go_num, rfl, by omega, by omega, HB2, fun j hj => ?_⟩
          by_cases e : j = k
          · subst e
            exact HZ3.out
          · exact HH.out j (by omega)
        case measure => simp [intOf]; omega
    · obtain rfl : k = n := by omega
      go_wp2
      go_ret
      exact ⟨⟨r, rfl, .inr ⟨hr0, hr1, by omega, HH.out⟩⟩, HB.out⟩

set_option maxHeartbeats 4000000 in
theorem szPlan_any (e : PT) : ∀ (l : Int) (w : World), 0 ≤ l → l ≤ 1048576 → e.came w → Calls Try.prog 10 #[.agg #[.int .i64 e.d.k, .int .i64 e.d.ord, .slice e.d.p.s.v.a e.d.p.s.v.len e.d.p.s.v.cap, .int .i64 e.d.p.s.t.t.k, .slice e.d.p.s.t.t.a e.d.p.s.t.t.len e.d.p.s.t.t.cap, .int .i64 e.d.p.s.t.t.n, .int .i64 e.d.p.s.t.t.s, .slice e.d.p.p.v.a e.d.p.p.v.len e.d.p.p.v.cap, .int .i64 e.d.p.p.t.t.k, .slice e.d.p.p.t.t.a e.d.p.p.t.t.len e.d.p.p.t.t.cap, .int .i64 e.d.p.p.t.t.n, .int .i64 e.d.p.p.t.t.s, .slice e.d.p.o.v.a e.d.p.o.v.len e.d.p.o.v.cap, .int .i64 e.d.p.o.t.t.k, .slice e.d.p.o.t.t.a e.d.p.o.t.t.len e.d.p.o.t.t.cap, .int .i64 e.d.p.o.t.t.n, .int .i64 e.d.p.o.t.t.s, .int .i64 e.d.e.d.k, .int .i64 e.d.e.d.op, .slice e.d.e.d.v.a e.d.e.d.v.len e.d.e.d.v.cap, .int .i64 e.d.e.d.t.t.k, .slice e.d.e.d.t.t.a e.d.e.d.t.t.len e.d.e.d.t.t.cap, .int .i64 e.d.e.d.t.t.n, .int .i64 e.d.e.d.t.t.s, .slice e.d.e.d.ka e.d.e.d.n e.d.e.d.kc, .slice e.d.v.a e.d.v.len e.d.v.cap, .slice e.d.ta e.d.tb.length e.d.tc, .slice e.d.ka e.d.n e.d.kc], .int .i64 l] w fun r w' => Sz e.small r ∧ Below w.heap.size w w' := by
  induction e with
  | nil => exact fun _ _ _ _ h => False.elim h
  | mk d kid ih =>
    intro l w h1 h2 hc
    show Calls Try.prog 10 #[.agg #[.int .i64 d.k, .int .i64 d.ord, .slice d.p.s.v.a d.p.s.v.len d.p.s.v.cap, .int .i64 d.p.s.t.t.k, .slice d.p.s.t.t.a d.p.s.t.t.len d.p.s.t.t.cap, .int .i64 d.p.s.t.t.n, .int .i64 d.p.s.t.t.s, .slice d.p.p.v.a d.p.p.v.len d.p.p.v.cap, .int .i64 d.p.p.t.t.k, .slice d.p.p.t.t.a d.p.p.t.t.len d.p.p.t.t.cap, .int .i64 d.p.p.t.t.n, .int .i64 d.p.p.t.t.s, .slice d.p.o.v.a d.p.o.v.len d.p.o.v.cap, .int .i64 d.p.o.t.t.k, .slice d.p.o.t.t.a d.p.o.t.t.len d.p.o.t.t.cap, .int .i64 d.p.o.t.t.n, .int .i64 d.p.o.t.t.s, .int .i64 d.e.d.k, .int .i64 d.e.d.op, .slice d.e.d.v.a d.e.d.v.len d.e.d.v.cap, .int .i64 d.e.d.t.t.k, .slice d.e.d.t.t.a d.e.d.t.t.len d.e.d.t.t.cap, .int .i64 d.e.d.t.t.n, .int .i64 d.e.d.t.t.s, .slice d.e.d.ka d.e.d.n d.e.d.kc, .slice d.v.a d.v.len d.v.cap, .slice d.ta d.tb.length d.tc, .slice d.ka d.n d.kc], .int .i64 l] w fun r w' => Sz (d.p.small ∧ d.e.small ∧ d.v.len ≤ 1048576 ∧ (d.tb.length ≤ 1048576 ∧ ∀ x ∈ d.tb, x.t.len ≤ 1048576) ∧ d.n ≤ 1048576 ∧ ∀ i, i < d.n → (kid i).small) r ∧ Below w.heap.size w w'
    obtain ⟨hp, he, hv, ht, hn, hR, hk⟩ := hc
    have HZ1 : Hid (∀ (W : World) (l : Int), 0 ≤ l → l ≤ 1048576 → Below w.heap.size w W → Calls Try.prog 34 #[.agg #[.slice d.p.s.v.a d.p.s.v.len d.p.s.v.cap, .int .i64 d.p.s.t.t.k, .slice d.p.s.t.t.a d.p.s.t.t.len d.p.s.t.t.cap, .int .i64 d.p.s.t.t.n, .int .i64 d.p.s.t.t.s, .slice d.p.p.v.a d.p.p.v.len d.p.p.v.cap, .int .i64 d.p.p.t.t.k, .slice d.p.p.t.t.a d.p.p.t.t.len d.p.p.t.t.cap, .int .i64 d.p.p.t.t.n, .int .i64 d.p.p.t.t.s, .slice d.p.o.v.a d.p.o.v.len d.p.o.v.cap, .int .i64 d.p.o.t.t.k, .slice d.p.o.t.t.a d.p.o.t.t.len d.p.o.t.t.cap, .int .i64 d.p.o.t.t.n, .int .i64 d.p.o.t.t.s], .int .i64 l] W fun e w' => Sz (d.p.small) e ∧ Below W.heap.size W w') := fun W l h1 h2 hb => szPat_any d.p l W h1 h2 (hp.below hb)
    have HZ2 : Hid (∀ (W : World) (l : Int), 0 ≤ l → l ≤ 1048576 → Below w.heap.size w W → Calls Try.prog 16 #[.agg #[.int .i64 d.e.d.k, .int .i64 d.e.d.op, .slice d.e.d.v.a d.e.d.v.len d.e.d.v.cap, .int .i64 d.e.d.t.t.k, .slice d.e.d.t.t.a d.e.d.t.t.len d.e.d.t.t.cap, .int .i64 d.e.d.t.t.n, .int .i64 d.e.d.t.t.s, .slice d.e.d.ka d.e.d.n d.e.d.kc], .int .i64 l] W fun e w' => Sz (d.e.small) e ∧ Below W.heap.size W w') := fun W l h1 h2 hb => szExpr_any d.e l W h1 h2 (ET.came.below hb he)
    have HZ3 : Hid (∀ (W : World) (l : Int), 0 ≤ l → l ≤ 1048576 → Below w.heap.size w W → Calls Try.prog 17 #[.slice d.v.a d.v.len d.v.cap, .int .i64 l] W fun e w' => Sz (d.v.len ≤ 1048576) e ∧ Below W.heap.size W w') := fun W l h1 h2 hb => szByteS_sz d.v l W h1 h2 hv.1
    have HZ4 : Hid (∀ (W : World) (l : Int), 0 ≤ l → l ≤ 1048576 → Below w.heap.size w W → Calls Try.prog 18 #[.slice d.ta d.tb.length d.tc, .int .i64 l] W fun e w' => Sz (d.tb.length ≤ 1048576 ∧ ∀ x ∈ d.tb, x.t.len ≤ 1048576) e ∧ Below W.heap.size W w') := fun W l h1 h2 hb => szTermS_sz d.ta d.tc d.tb l W h1 h2 (ht.below hb)
    have HZ5 : Hid (∀ (W : World) (l : Int), 0 ≤ l → l ≤ 1048576 → Below w.heap.size w W → Calls Try.prog 35 #[.slice d.ka d.n d.kc, .int .i64 l] W fun e w' => Sz (d.n ≤ 1048576 ∧ ∀ i, i < d.n → (kid i).small) e ∧ Below W.heap.size W w') := fun W l h1 h2 hb => szPlanS_of d.ka d.kc d.n kid l W h1 h2 hn (hR.upper (Upper.of_below hb)) fun i hi W' l' a1 a2 hW => ih i l' W' a1 a2 (PT.came.below (bl_trans hb hW) (hk i hi))
    clear hp he hv ht hn hR hk ih
    go_enter Try.func10, Try.ntmps10
    have Z1 := HZ1.out
    go_wp2_with fail
    refine (Z1 _ l h1 h2 (bl_a _)).mono ?_
    rintro e w1 ⟨⟨r1, rfl, hr1⟩, hb1⟩
    have HX1 : Hid (Box w1 w.heap.size [.int .i64 d.k, .int .i64 d.ord, .slice d.p.s.v.a d.p.s.v.len d.p.s.v.cap, .int .i64 d.p.s.t.t.k, .slice d.p.s.t.t.a d.p.s.t.t.len d.p.s.t.t.cap, .int .i64 d.p.s.t.t.n, .int .i64 d.p.s.t.t.s, .slice d.p.p.v.a d.p.p.v.len d.p.p.v.cap, .int .i64 d.p.p.t.t.k, .slice d.p.p.t.t.a d.p.p.t.t.len d.p.p.t.t.cap, .int .i64 d.p.p.t.t.n, .int .i64 d.p.p.t.t.s, .slice d.p.o.v.a d.p.o.v.len d.p.o.v.cap, .int .i64 d.p.o.t.t.k, .slice d.p.o.t.t.a d.p.o.t.t.len d.p.o.t.t.cap, .int .i64 d.p.o.t.t.n, .int .i64 d.p.o.t.t.s, .int .i64 d.e.d.k, .int .i64 d.e.d.op, .slice d.e.d.v.a d.e.d.v.len d.e.d.v.cap, .int .i64 d.e.d.t.t.k, .slice d.e.d.t.t.a d.e.d.t.t.len d.e.d.t.t.cap, .int .i64 d.e.d.t.t.n, .int .i64 d.e.d.t.t.s, .slice d.e.d.ka d.e.d.n d.e.d.kc, .slice d.v.a d.v.len d.v.cap, .slice d.ta d.tb.length d.tc, .slice d.ka d.n d.kc]) := (Box.new w #[.int .i64 d.k, .int .i64 d.ord, .slice d.p.s.v.a d.p.s.v.len d.p.s.v.cap, .int .i64 d.p.s.t.t.k, .slice d.p.s.t.t.a d.p.s.t.t.len d.p.s.t.t.cap, .int .i64 d.p.s.t.t.n, .int .i64 d.p.s.t.t.s, .slice d.p.p.v.a d.p.p.v.len d.p.p.v.cap, .int .i64 d.p.p.t.t.k, .slice d.p.p.t.t.a d.p.p.t.t.len d.p.p.t.t.cap, .int .i64 d.p.p.t.t.n, .int .i64 d.p.p.t.t.s, .slice d.p.o.v.a d.p.o.v.len d.p.o.v.cap, .int .i64 d.p.o.t.t.k, .slice d.p.o.t.t.a d.p.o.t.t.len d.p.o.t.t.cap, .int .i64 d.p.o.t.t.n, .int .i64 d.p.o.t.t.s, .int .i64 d.e.d.k, .int .i64 d.e.d.op, .slice d.e.d.v.a d.e.d.v.len d.e.d.v.cap, .int .i64 d.e.d.t.t.k, .slice d.e.d.t.t.a d.e.d.t.t.len d.e.d.t.t.cap, .int .i64 d.e.d.t.t.n, .int .i64 d.e.d.t.t.s, .slice d.e.d.ka d.e.d.n d.e.d.kc, .slice d.v.a d.v.len d.v.cap, .slice d.ta d.tb.length d.tc, .slice d.ka d.n d.kc] 53 _).below hb1
    have HB1 : Hid (Below w.heap.size w w1) := bl_trans (bl_a _) hb1
    clear hb1 Z1 
    rcases hr1 with rfl | ⟨p1, q1, s1⟩
    · go_wp2_with fail
      go_ret
      exact ⟨⟨-1, rfl, .inl rfl⟩, HB1.out⟩
    have n1 : ¬ r1 < 0 := by omega
    have HS1 : Hid (d.p.small) := s1
    clear s1
    have ld : w1.rangeAt w.heap.size 17 [.int .i64 d.e.d.k, .int .i64 d.e.d.op, .slice d.e.d.v.a d.e.d.v.len d.e.d.v.cap, .int .i64 d.e.d.t.t.k, .slice d.e.d.t.t.a d.e.d.t.t.len d.e.d.t.t.cap, .int .i64 d.e.d.t.t.n, .int .i64 d.e.d.t.t.s, .slice d.e.d.ka d.e.d.n d.e.d.kc] := HX1.out.range 17 _ rfl
    have Z2 := HZ2.out
    go_wp2_with (refine wpList_load_mid rfl 28 _ rfl w.heap.size 17 rfl [.int .i64 d.e.d.k, .int .i64 d.e.d.op, .slice d.e.d.v.a d.e.d.v.len d.e.d.v.cap, .int .i64 d.e.d.t.t.k, .slice d.e.d.t.t.a d.e.d.t.t.len d.e.d.t.t.cap, .int .i64 d.e.d.t.t.n, .int .i64 d.e.d.t.t.s, .slice d.e.d.ka d.e.d.n d.e.d.kc] _ ld Try.underlying28 rfl (by kernel_rfl) ?_; try simp only [Act.put, List.setIfInBounds_toArray, List.set_cons_zero, List.set_cons_succ])
    refine (Z2 _ r1 p1 q1 HB1.out).mono ?_
    rintro e w2 ⟨⟨r2, rfl, hr2⟩, hb2⟩
    have HX2 : Hid (Box w2 w.heap.size [.int .i64 d.k, .int .i64 d.ord, .slice d.p.s.v.a d.p.s.v.len d.p.s.v.cap, .int .i64 d.p.s.t.t.k, .slice d.p.s.t.t.a d.p.s.t.t.len d.p.s.t.t.cap, .int .i64 d.p.s.t.t.n, .int .i64 d.p.s.t.t.s, .slice d.p.p.v.a d.p.p.v.len d.p.p.v.cap, .int .i64 d.p.p.t.t.k, .slice d.p.p.t.t.a d.p.p.t.t.len d.p.p.t.t.cap, .int .i64 d.p.p.t.t.n, .int .i64 d.p.p.t.t.s, .slice d.p.o.v.a d.p.o.v.len d.p.o.v.cap, .int .i64 d.p.o.t.t.k, .slice d.p.o.t.t.a d.p.o.t.t.len d.p.o.t.t.cap, .int .i64 d.p.o.t.t.n, .int .i64 d.p.o.t.t.s, .int .i64 d.e.d.k, .int .i64 d.e.d.op, .slice d.e.d.v.a d.e.d.v.len d.e.d.v.cap, .int .i64 d.e.d.t.t.k, .slice d.e.d.t.t.a d.e.d.t.t.len d.e.d.t.t.cap, .int .i64 d.e.d.t.t.n, .int .i64 d.e.d.t.t.s, .slice d.e.d.ka d.e.d.n d.e.d.kc, .slice d.v.a d.v.len d.v.cap, .slice d.ta d.tb.length d.tc, .slice d.ka d.n d.kc]) := HX1.out.below hb2
    have HB2 : Hid (Below w.heap.size w w2) := bl_trans HB1.out hb2
    clear hb2 Z2 ld HX1 HB1
    rcases hr2 with rfl | ⟨p2, q2, s2⟩
    · go_wp2_with fail
      go_ret
      exact ⟨⟨-1, rfl, .inl rfl⟩, HB2.out⟩
    have n2 : ¬ r2 < 0 := by omega
    have HS2 : Hid (d.e.small) := s2
    clear s2
    have ld := HX2.out.2 25 _ rfl
    have Z3 := HZ3.out
    go_wp2_with fail
    refine (Z3 _ r2 p2 q2 HB2.out).mono ?_
    rintro e w3 ⟨⟨r3, rfl, hr3⟩, hb3⟩
    have HX3 : Hid (Box w3 w.heap.size [.int .i64 d.k, .int .i64 d.ord, .slice d.p.s.v.a d.p.s.v.len d.p.s.v.cap, .int .i64 d.p.s.t.t.k, .slice d.p.s.t.t.a d.p.s.t.t.len d.p.s.t.t.cap, .int .i64 d.p.s.t.t.n, .int .i64 d.p.s.t.t.s, .slice d.p.p.v.a d.p.p.v.len d.p.p.v.cap, .int .i64 d.p.p.t.t.k, .slice d.p.p.t.t.a d.p.p.t.t.len d.p.p.t.t.cap, .int .i64 d.p.p.t.t.n, .int .i64 d.p.p.t.t.s, .slice d.p.o.v.a d.p.o.v.len d.p.o.v.cap, .int .i64 d.p.o.t.t.k, .slice d.p.o.t.t.a d.p.o.t.t.len d.p.o.t.t.cap, .int .i64 d.p.o.t.t.n, .int .i64 d.p.o.t.t.s, .int .i64 d.e.d.k, .int .i64 d.e.d.op, .slice d.e.d.v.a d.e.d.v.len d.e.d.v.cap, .int .i64 d.e.d.t.t.k, .slice d.e.d.t.t.a d.e.d.t.t.len d.e.d.t.t.cap, .int .i64 d.e.d.t.t.n, .int .i64 d.e.d.t.t.s, .slice d.e.d.ka d.e.d.n d.e.d.kc, .slice d.v.a d.v.len d.v.cap, .slice d.ta d.tb.length d.tc, .slice d.ka d.n d.kc]) := HX2.out.below hb3
    have HB3 : Hid (Below w.heap.size w w3) := bl_trans HB2.out hb3
    clear hb3 Z3 ld HX2 HB2
    rcases hr3 with rfl | ⟨p3, q3, s3⟩
    · go_wp2_with fail
      go_ret
      exact ⟨⟨-1, rfl, .inl rfl⟩, HB3.out⟩
    have n3 : ¬ r3 < 0 := by omega
    have HS3 : Hid (d.v.len ≤ 1048576) := s3
    clear s3
    have ld := HX3.out.2 26 _ rfl
    have Z4 := HZ4.out
    go_wp2_with fail
    refine (Z4 _ r3 p3 q3 HB3.out).mono ?_
    rintro e w4 ⟨⟨r4, rfl, hr4⟩, hb4⟩
    have HX4 : Hid (Box w4 w.heap.size [.int .i64 d.k, .int .i64 d.ord, .slice d.p.s.v.a d.p.s.v.len d.p.s.v.cap, .int .i64 d.p.s.t.t.k, .slice d.p.s.t.t.a d.p.s.t.t.len d.p.s.t.t.cap, .int .i64 d.p.s.t.t.n, .int .i64 d.p.s.t.t.s, .slice d.p.p.v.a d.p.p.v.len d.p.p.v.cap, .int .i64 d.p.p.t.t.k, .slice d.p.p.t.t.a d.p.p.t.t.len d.p.p.t.t.cap, .int .i64 d.p.p.t.t.n, .int .i64 d.p.p.t.t.s, .slice d.p.o.v.a d.p.o.v.len d.p.o.v.cap, .int .i64 d.p.o.t.t.k, .slice d.p.o.t.t.a d.p.o.t.t.len d.p.o.t.t.cap, .int .i64 d.p.o.t.t.n, .int .i64 d.p.o.t.t.s, .int .i64 d.e.d.k, .int .i64 d.e.d.op, .slice d.e.d.v.a d.e.d.v.len d.e.d.v.cap, .int .i64 d.e.d.t.t.k, .slice d.e.d.t.t.a d.e.d.t.t.len d.e.d.t.t.cap, .int .i64 d.e.d.t.t.n, .int .i64 d.e.d.t.t.s, .slice d.e.d.ka d.e.d.n d.e.d.kc, .slice d.v.a d.v.len d.v.cap, .slice d.ta d.tb.length d.tc, .slice d.ka d.n d.kc]) := HX3.out.below hb4
    have HB4 : Hid (Below w.heap.size w w4) := bl_trans HB3.out hb4
    clear hb4 Z4 ld HX3 HB3
    rcases hr4 with rfl | ⟨p4, q4, s4⟩
    · go_wp2_with fail
      go_ret
      exact ⟨⟨-1, rfl, .inl rfl⟩, HB4.out⟩
    have n4 : ¬ r4 < 0 := by omega
    have HS4 : Hid (d.tb.length ≤ 1048576 ∧ ∀ x ∈ d.tb, x.t.len ≤ 1048576) := s4
    clear s4
    have ld := HX4.out.2 27 _ rfl
    have Z5 := HZ5.out
    go_wp2_with fail
    refine (Z5 _ r4 p4 q4 HB4.out).mono ?_
    rintro e w5 ⟨⟨r5, rfl, hr5⟩, hb5⟩
    have HX5 : Hid (Box w5 w.heap.size [.int .i64 d.k, .int .i64 d.ord, .slice d.p.s.v.a d.p.s.v.len d.p.s.v.cap, .int .i64 d.p.s.t.t.k, .slice d.p.s.t.t.a d.p.s.t.t.len d.p.s.t.t.cap, .int .i64 d.p.s.t.t.n, .int .i64 d.p.s.t.t.s, .slice d.p.p.v.a d.p.p.v.len d.p.p.v.cap, .int .i64 d.p.p.t.t.k, .slice d.p.p.t.t.a d.p.p.t.t.len d.p.p.t.t.cap, .int .i64 d.p.p.t.t.n, .int .i64 d.p.p.t.t.s, .slice d.p.o.v.a d.p.o.v.len d.p.o.v.cap, .int .i64 d.p.o.t.t.k, .slice d.p.o.t.t.a d.p.o.t.t.len d.p.o.t.t.cap, .int .i64 d.p.o.t.t.n, .int .i64 d.p.o.t.t.s, .int .i64 d.e.d.k, .int .i64 d.e.d.op, .slice d.e.d.v.a d.e.d.v.len d.e.d.v.cap, .int .i64 d.e.d.t.t.k, .slice d.e.d.t.t.a d.e.d.t.t.len d.e.d.t.t.cap, .int .i64 d.e.d.t.t.n, .int .i64 d.e.d.t.t.s, .slice d.e.d.ka d.e.d.n d.e.d.kc, .slice d.v.a d.v.len d.v.cap, .slice d.ta d.tb.length d.tc, .slice d.ka d.n d.kc]) := HX4.out.below hb5
    have HB5 : Hid (Below w.heap.size w w5) := bl_trans HB4.out hb5
    clear hb5 Z5 ld HX4 HB4
    rcases hr5 with rfl | ⟨p5, q5, s5⟩
    · go_wp2_with fail
      go_ret
      exact ⟨⟨-1, rfl, .inl rfl⟩, HB5.out⟩
    have n5 : ¬ r5 < 0 := by omega
    have HS5 : Hid (d.n ≤ 1048576 ∧ ∀ i, i < d.n → (kid i).small) := s5
    clear s5
    go_wp2_with fail
    go_ret
    exact ⟨⟨r5, rfl, .inr ⟨p5, q5, HS1.out, HS2.out, HS3.out, HS4.out, HS5.out⟩⟩, HB5.out⟩
end Go.Proofs.Ytpgbhkkdbkecoaa
