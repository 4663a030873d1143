/- Texts put together: TbA TreC -/
import Derived.Test.YtganfiajhokkmaaGreatDoorMk04
import Derived.Test.YtganfiajhokkmaaGreatDoorMk03
/- TbA -/
namespace Go.Proofs.YtganfiajhokkmaaGreatDoor
open Go.RowKit Go.Deep
set_option maxRecDepth 100000

/-- A cell. -/
structure CB where
  has : Bool
  t : TB
def CB.cells (x : CB) : List Value := [.bool x.has, .int .i64 x.t.t.k, .slice x.t.t.a x.t.t.len x.t.t.cap, .int .i64 x.t.t.n, .int .i64 x.t.t.s]
def CB.lies (B : Nat) (w : World) (x : CB) : Prop := BsF B w x.t.sl ∧ x.t.t.fits
def CB.came (w : World) (x : CB) : Prop := Cm w x.t.sl ∧ x.t.t.fits
def CB.small (x : CB) : Prop := x.t.t.len ≤ 1048576
def CB.same (x y : CB) : Prop := x.has = y.has ∧ x.t.td = y.t.td
theorem CB.lies.upper {B : Nat} {w w' : World} {x : CB} (h : x.lies B w) (hu : Upper B w w') : x.lies B w' := ⟨h.1.upper hu, h.2⟩
theorem CB.lies.base {B B' : Nat} {w : World} {x : CB} (h : x.lies B w) (hB : B' ≤ B) : x.lies B' w := ⟨h.1.base hB, h.2⟩
theorem CB.came.below {w w' : World} {x : CB} (h : x.came w) (hb : Below w.heap.size w w') : x.came w' := ⟨h.1.below hb, h.2⟩
theorem CB.came.lies {w : World} {x : CB} (h : x.came w) (hs : x.small) : x.lies 0 w := ⟨h.1.bs hs, h.2⟩
/-- A solution. -/
structure SO where
  a : Option Addr
  cap : Nat
  n : Nat
  cel : Nat → CB
def SO.cells (x : SO) : List Value := [.slice x.a x.n x.cap]
def SO.lies (B : Nat) (w : World) (x : SO) : Prop := KRow B w 5 x.a x.n (fun i => (x.cel i).cells) ∧ (∀ i, i < x.n → (x.cel i).lies B w) ∧ x.n ≤ 1048576
def SO.came (w : World) (x : SO) : Prop := KRow 0 w 5 x.a x.n (fun i => (x.cel i).cells) ∧ (∀ i, i < x.n → (x.cel i).came w) ∧ x.n ≤ 9223372036854775807
def SO.small (x : SO) : Prop := x.n ≤ 1048576 ∧ ∀ i, i < x.n → (x.cel i).small
def SO.same (x y : SO) : Prop := x.n = y.n ∧ ∀ i, i < x.n → (x.cel i).same (y.cel i)
theorem SO.lies.upper {B : Nat} {w w' : World} {x : SO} (h : x.lies B w) (hu : Upper B w w') : x.lies B w' := ⟨h.1.upper hu, fun i hi => (h.2.1 i hi).upper hu, h.2.2⟩
theorem SO.lies.base {B B' : Nat} {w : World} {x : SO} (h : x.lies B w) (hB : B' ≤ B) : x.lies B' w := ⟨h.1.base hB, fun i hi => (h.2.1 i hi).base hB, h.2.2⟩
theorem SO.came.below {w w' : World} {x : SO} (h : x.came w) (hb : Below w.heap.size w w') : x.came w' := ⟨h.1.upper (Upper.of_below hb), fun i hi => (h.2.1 i hi).below hb, h.2.2⟩
theorem SO.came.lies {w : World} {x : SO} (h : x.came w) (hs : x.small) : x.lies 0 w := ⟨h.1, fun i hi => (h.2.1 i hi).lies (hs.2 i hi), hs.1⟩
/-- Texts as elements. -/
def SL.lies (B : Nat) (w : World) (x : SL) : Prop := BsF B w x
def SL.came (w : World) (x : SL) : Prop := Cm w x
def SL.small (x : SL) : Prop := x.len ≤ 1048576
def SL.same (x y : SL) : Prop := x.b = y.b
def SL.cells (x : SL) : List Value := [.slice x.a x.len x.cap]
theorem SL.lies.upper {B : Nat} {w w' : World} {x : SL} (h : x.lies B w) (hu : Upper B w w') : x.lies B w' := BsF.upper h hu
theorem SL.lies.base {B B' : Nat} {w : World} {x : SL} (h : x.lies B w) (hB : B' ≤ B) : x.lies B' w := BsF.base h hB
/-- A table. -/
structure TL where
  va : Option Addr
  vc : Nat
  vn : Nat
  var : Nat → SL
  ra : Option Addr
  rc : Nat
  rn : Nat
  row : Nat → SO
def TL.cells (x : TL) : List Value := [.slice x.va x.vn x.vc, .slice x.ra x.rn x.rc]
def TL.lies (B : Nat) (w : World) (x : TL) : Prop := KRow B w 1 x.va x.vn (fun i => (x.var i).cells) ∧ (∀ i, i < x.vn → (x.var i).lies B w) ∧ x.vn ≤ 1048576 ∧ KRow B w 1 x.ra x.rn (fun i => (x.row i).cells) ∧ (∀ i, i < x.rn → (x.row i).lies B w) ∧ x.rn ≤ 1048576
def TL.came (w : World) (x : TL) : Prop := KRow 0 w 1 x.va x.vn (fun i => (x.var i).cells) ∧ (∀ i, i < x.vn → (x.var i).came w) ∧ x.vn ≤ 9223372036854775807 ∧ KRow 0 w 1 x.ra x.rn (fun i => (x.row i).cells) ∧ (∀ i, i < x.rn → (x.row i).came w) ∧ x.rn ≤ 9223372036854775807
def TL.small (x : TL) : Prop := (x.vn ≤ 1048576 ∧ ∀ i, i < x.vn → (x.var i).small) ∧ x.rn ≤ 1048576 ∧ ∀ i, i < x.rn → (x.row i).small
def TL.same (x y : TL) : Prop := x.vn = y.vn ∧ (∀ i, i < x.vn → (x.var i).same (y.var i)) ∧ x.rn = y.rn ∧ ∀ i, i < x.rn → (x.row i).same (y.row i)
theorem TL.lies.upper {B : Nat} {w w' : World} {x : TL} (h : x.lies B w) (hu : Upper B w w') : x.lies B w' := ⟨h.1.upper hu, fun i hi => (h.2.1 i hi).upper hu, h.2.2.1, h.2.2.2.1.upper hu, fun i hi => (h.2.2.2.2.1 i hi).upper hu, h.2.2.2.2.2⟩
theorem TL.lies.base {B B' : Nat} {w : World} {x : TL} (h : x.lies B w) (hB : B' ≤ B) : x.lies B' w := ⟨h.1.base hB, fun i hi => (h.2.1 i hi).base hB, h.2.2.1, h.2.2.2.1.base hB, fun i hi => (h.2.2.2.2.1 i hi).base hB, h.2.2.2.2.2⟩
theorem TL.came.below {w w' : World} {x : TL} (h : x.came w) (hb : Below w.heap.size w w') : x.came w' := ⟨h.1.upper (Upper.of_below hb), fun i hi => Cm.below (h.2.1 i hi) hb, h.2.2.1, h.2.2.2.1.upper (Upper.of_below hb), fun i hi => (h.2.2.2.2.1 i hi).below hb, h.2.2.2.2.2⟩
theorem TL.came.lies {w : World} {x : TL} (h : x.came w) (hs : x.small) : x.lies 0 w := ⟨h.1, fun i hi => Cm.bs (h.2.1 i hi) (hs.1.2 i hi), hs.1.1, h.2.2.2.1, fun i hi => (h.2.2.2.2.1 i hi).lies (hs.2.2 i hi), hs.2.1⟩
theorem szCell_any (x : CB) (l : Int) (w : World) (h1 : 0 ≤ l) (h2 : l ≤ 1048576) (hc : x.came w) :
    Calls Tryz.prog 71 #[.agg #[.bool x.has, .int .i64 x.t.t.k, .slice x.t.t.a x.t.t.len x.t.t.cap, .int .i64 x.t.t.n, .int .i64 x.t.t.s], .int .i64 l] w fun e w' => Sz x.small e ∧ Below w.heap.size w w' := by
  have HZ1 : Hid (∀ (W : World) (l : Int), 0 ≤ l → l ≤ 1048576 → Below w.heap.size w W → Calls Tryz.prog 84 #[.agg #[.int .i64 x.t.t.k, .slice x.t.t.a x.t.t.len x.t.t.cap, .int .i64 x.t.t.n, .int .i64 x.t.t.s], .int .i64 l] W fun e w' => Sz (x.t.t.len ≤ 1048576) e ∧ Below W.heap.size W w') := fun W l h1 h2 hb => szTerm_sz x.t l W h1 h2 hc.1.1
  clear hc
  go_enter Tryz.func71, Tryz.ntmps71
  have Z1 := HZ1.out
  go_wp2_with fail
  refine (Z1 _ l h1 h2 (bl_a _)).mono ?_
  rintro e w1 ⟨⟨r1, rfl, hr1⟩, hb1⟩
  have HX1 : Hid (Box w1 w.heap.size [.bool x.has, .int .i64 x.t.t.k, .slice x.t.t.a x.t.t.len x.t.t.cap, .int .i64 x.t.t.n, .int .i64 x.t.t.s]) := (Box.new w #[.bool x.has, .int .i64 x.t.t.k, .slice x.t.t.a x.t.t.len x.t.t.cap, .int .i64 x.t.t.n, .int .i64 x.t.t.s] 97 _).below hb1
  have HB1 : Hid (Below w.heap.size w w1) := bl_trans (bl_a _) hb1
  clear hb1 Z1 
  rcases hr1 with rfl | ⟨p1, q1, s1⟩
  · go_wp2_with fail
    go_ret
    exact ⟨⟨-1, rfl, .inl rfl⟩, HB1.out⟩
  have n1 : ¬ r1 < 0 := by omega
  have HS1 : Hid (x.t.t.len ≤ 1048576) := s1
  clear s1
  go_wp2_with fail
  go_ret
  exact ⟨⟨r1, rfl, .inr ⟨p1, q1, HS1.out⟩⟩, HB1.out⟩
set_option maxHeartbeats 2000000 in
theorem szCellS_of (a : Option Addr) (cap n : Nat) (kid : Nat → CB) (l : Int) (w : World) (h1 : 0 ≤ l) (h2 : l ≤ 1048576) (hn : n ≤ 9223372036854775807) (hR : KRow 0 w 5 a n (fun i => (kid i).cells))
    (IH : ∀ i, i < n → ∀ (W : World) (l : Int), 0 ≤ l → l ≤ 1048576 → Below w.heap.size w W → Calls Tryz.prog 71 #[.agg #[.bool (kid i).has, .int .i64 (kid i).t.t.k, .slice (kid i).t.t.a (kid i).t.t.len (kid i).t.t.cap, .int .i64 (kid i).t.t.n, .int .i64 (kid i).t.t.s], .int .i64 l] W fun e w' => Sz (kid i).small e ∧ Below W.heap.size W w') :
    Calls Tryz.prog 50 #[.slice a n cap, .int .i64 l] w fun e w' => Sz (n ≤ 1048576 ∧ ∀ i, i < n → (kid i).small) e ∧ Below w.heap.size w w' := by
  by_cases hbig : l < n
  · clear hR IH
    go_enter Tryz.func50, Tryz.ntmps50
    go_wp2
    go_ret
    exact ⟨⟨-1, rfl, .inl rfl⟩, Below.refl _ _⟩
  by_cases hn0 : n = 0
  · subst hn0
    clear hR IH hn hbig
    have hbig : ¬ l < 0 := by omega
    go_enter Tryz.func50, Tryz.ntmps50
    go_wp2
    refine wp_loop_rounds 1 ?_
    rw [rounds_succ]
    go_wp2
    go_ret
    exact ⟨⟨_, rfl, .inr ⟨by omega, by omega, by omega, fun i hi => absurd hi (Nat.not_lt_zero _)⟩⟩, Below.refl _ _⟩
  obtain ⟨b, off, rfl, _, hlt, hc⟩ := hR.resolve_left hn0
  have HC : Hid (∀ i, i < n → ∀ c u, ((kid i).cells)[c]? = some u → w.cell? ⟨b, off + i * 5 + c, none⟩ = some u) := hc
  have HI : Hid (∀ i, i < n → ∀ (W : World) (l : Int), 0 ≤ l → l ≤ 1048576 → Below w.heap.size w W → Calls Tryz.prog 71 #[.agg #[.bool (kid i).has, .int .i64 (kid i).t.t.k, .slice (kid i).t.t.a (kid i).t.t.len (kid i).t.t.cap, .int .i64 (kid i).t.t.n, .int .i64 (kid i).t.t.s], .int .i64 l] W fun e w' => Sz (kid i).small e ∧ Below W.heap.size W w') := IH
  clear hR hc IH
  go_enter Tryz.func50, Tryz.ntmps50
  go_wp2
  go_loopw [1, 5] (fun x i wr => ∃ (k : Nat) (r : Int), k ≤ n ∧ i = .int .i64 k ∧ x = .int .i64 r ∧ 0 ≤ r ∧ r ≤ 1048576 ∧ Hid (Below w.heap.size w wr) ∧ Hid (∀ j, j < k → (kid j).small))
    (fun _ i _ => n - (intOf i).toNat)
  case atStart => exact ⟨0, _, Nat.zero_le _, rfl, rfl, by omega, by omega, Below.refl _ _, fun j hj => absurd hj (Nat.not_lt_zero _)⟩
  case round =>
    obtain ⟨k, r, hk, rfl, rfl, hr0, hr1, HB, HH⟩ := hrel
    by_cases hlk : k < n
    · have hcx : ∀ c u, ((kid k).cells)[c]? = some u → wr.cell? ⟨b, off + k * 5 + c, none⟩ = some u := fun c u hu => (HB.out.cell (p := ⟨b, off + k * 5 + c, none⟩) hlt).trans (HC.out k hlk c u hu)
      have hin : (Tryz.prog.info? 97).map (·.size) = some 5 := by kernel_rfl
      have Z := HI.out k hlk
      go_wp2_with (refine wpList_load_mid rfl 97 _ rfl b (off + k * 5) rfl [.bool (kid k).has, .int .i64 (kid k).t.t.k, .slice (kid k).t.t.a (kid k).t.t.len (kid k).t.t.cap, .int .i64 (kid k).t.t.n, .int .i64 (kid k).t.t.s] _ hcx Tryz.underlying97 rfl hin ?_; try simp only [Act.put, List.setIfInBounds_toArray, List.set_cons_zero, List.set_cons_succ])
      refine (Z _ r hr0 hr1 HB.out).mono ?_
      rintro e w2 ⟨⟨q, rfl, hq⟩, hb2⟩
      have HB2 : Hid (Below w.heap.size w w2) := bl_trans HB.out hb2
      clear hcx hin Z hb2 HB
      rcases hq with rfl | ⟨z1, z2, z3⟩
      · go_wp2
        go_ret
        exact ⟨⟨-1, rfl, .inl rfl⟩, HB2.out⟩
      · have HZ3 : Hid ((kid k).small) := z3
        have nq : ¬ q < 0 := by omega
        clear z3
        go_wp2
        go_roundw
        case rel =>
          refine ⟨k + 1, q, by omega, by go_num, rfl, by omega, by omega, HB2, fun j hj => ?_⟩
          by_cases e : j = k
          · subst e
            exact HZ3.out
          · exact HH.out j (by omega)
        case measure => simp [intOf]; omega
    · obtain rfl : k = n := by omega
      go_wp2
      go_ret
      exact ⟨⟨r, rfl, .inr ⟨hr0, hr1, by omega, HH.out⟩⟩, HB.out⟩
theorem szSol_any (x : SO) (l : Int) (w : World) (h1 : 0 ≤ l) (h2 : l ≤ 1048576) (hc : x.came w) :
    Calls Tryz.prog 31 #[.agg #[.slice x.a x.n x.cap], .int .i64 l] w fun e w' => Sz x.small e ∧ Below w.heap.size w w' := by
  have HZ1 : Hid (∀ (W : World) (l : Int), 0 ≤ l → l ≤ 1048576 → Below w.heap.size w W → Calls Tryz.prog 50 #[.slice x.a x.n x.cap, .int .i64 l] W fun e w' => Sz (x.n ≤ 1048576 ∧ ∀ i, i < x.n → (x.cel i).small) e ∧ Below W.heap.size W w') := fun W l h1 h2 hb => szCellS_of x.a x.cap x.n x.cel l W h1 h2 hc.2.2 (hc.1.upper (Upper.of_below hb)) fun i hi W' l' a1 a2 hW => szCell_any (x.cel i) l' W' a1 a2 ((hc.2.1 i hi).below (bl_trans hb hW))
  clear hc
  go_enter Tryz.func31, Tryz.ntmps31
  have Z1 := HZ1.out
  go_wp2_with fail
  refine (Z1 _ l h1 h2 (bl_a _)).mono ?_
  rintro e w1 ⟨⟨r1, rfl, hr1⟩, hb1⟩
  have HX1 : Hid (Box w1 w.heap.size [.slice x.a x.n x.cap]) := (Box.new w #[.slice x.a x.n x.cap] 63 _).below hb1
  have HB1 : Hid (Below w.heap.size w w1) := bl_trans (bl_a _) hb1
  clear hb1 Z1 
  rcases hr1 with rfl | ⟨p1, q1, s1⟩
  · go_wp2_with fail
    go_ret
    exact ⟨⟨-1, rfl, .inl rfl⟩, HB1.out⟩
  have n1 : ¬ r1 < 0 := by omega
  have HS1 : Hid (x.n ≤ 1048576 ∧ ∀ i, i < x.n → (x.cel i).small) := s1
  clear s1
  go_wp2_with fail
  go_ret
  exact ⟨⟨r1, rfl, .inr ⟨p1, q1, HS1.out⟩⟩, HB1.out⟩
set_option maxHeartbeats 2000000 in
theorem szSolS_of (a : Option Addr) (cap n : Nat) (kid : Nat → SO) (l : Int) (w : World) (h1 : 0 ≤ l) (h2 : l ≤ 1048576) (hn : n ≤ 9223372036854775807) (hR : KRow 0 w 1 a n (fun i => (kid i).cells))
    (IH : ∀ i, i < n → ∀ (W : World) (l : Int), 0 ≤ l → l ≤ 1048576 → Below w.heap.size w W → Calls Tryz.prog 31 #[.agg #[.slice (kid i).a (kid i).n (kid i).cap], .int .i64 l] W fun e w' => Sz (kid i).small e ∧ Below W.heap.size W w') :
    Calls Tryz.prog 14 #[.slice a n cap, .int .i64 l] w fun e w' => Sz (n ≤ 1048576 ∧ ∀ i, i < n → (kid i).small) e ∧ Below w.heap.size w w' := by
  by_cases hbig : l < n
  · clear hR IH
    go_enter Tryz.func14, Tryz.ntmps14
    go_wp2
    go_ret
    exact ⟨⟨-1, rfl, .inl rfl⟩, Below.refl _ _⟩
  by_cases hn0 : n = 0
  · subst hn0
    clear hR IH hn hbig
    have hbig : ¬ l < 0 := by omega
    go_enter Tryz.func14, Tryz.ntmps14
    go_wp2
    refine wp_loop_rounds 1 ?_
    rw [rounds_succ]
    go_wp2
    go_ret
    exact ⟨⟨_, rfl, .inr ⟨by omega, by omega, by omega, fun i hi => absurd hi (Nat.not_lt_zero _)⟩⟩, Below.refl _ _⟩
  obtain ⟨b, off, rfl, _, hlt, hc⟩ := hR.resolve_left hn0
  have HC : Hid (∀ i, i < n → ∀ c u, ((kid i).cells)[c]? = some u → w.cell? ⟨b, off + i + c, none⟩ = some u) := fun i hi c u hu => (by have h := hc i hi c u hu; rwa [Nat.mul_one] at h)
  have HI : Hid (∀ i, i < n → ∀ (W : World) (l : Int), 0 ≤ l → l ≤ 1048576 → Below w.heap.size w W → Calls Tryz.prog 31 #[.agg #[.slice (kid i).a (kid i).n (kid i).cap], .int .i64 l] W fun e w' => Sz (kid i).small e ∧ Below W.heap.size W w') := IH
  clear hR hc IH
  go_enter Tryz.func14, Tryz.ntmps14
  go_wp2
  go_loopw [1, 5] (fun x i wr => ∃ (k : Nat) (r : Int), k ≤ n ∧ i = .int .i64 k ∧ x = .int .i64 r ∧ 0 ≤ r ∧ r ≤ 1048576 ∧ Hid (Below w.heap.size w wr) ∧ Hid (∀ j, j < k → (kid j).small))
    (fun _ i _ => n - (intOf i).toNat)
  case atStart => exact ⟨0, _, Nat.zero_le _, rfl, rfl, by omega, by omega, Below.refl _ _, fun j hj => absurd hj (Nat.not_lt_zero _)⟩
  case round =>
    obtain ⟨k, r, hk, rfl, rfl, hr0, hr1, HB, HH⟩ := hrel
    by_cases hlk : k < n
    · have hcx : ∀ c u, ((kid k).cells)[c]? = some u → wr.cell? ⟨b, off + k + c, none⟩ = some u := fun c u hu => (HB.out.cell (p := ⟨b, off + k + c, none⟩) hlt).trans (HC.out k hlk c u hu)
      have hin : (Tryz.prog.info? 63).map (·.size) = some 1 := by kernel_rfl
      have Z := HI.out k hlk
      go_wp2_with (refine wpList_load_mid rfl 63 _ rfl b (off + k) rfl [.slice (kid k).a (kid k).n (kid k).cap] _ hcx Tryz.underlying63 rfl hin ?_; try simp only [Act.put, List.setIfInBounds_toArray, List.set_cons_zero, List.set_cons_succ])
      refine (Z _ r hr0 hr1 HB.out).mono ?_
      rintro e w2 ⟨⟨q, rfl, hq⟩, hb2⟩
      have HB2 : Hid (Below w.heap.size w w2) := bl_trans HB.out hb2
      clear hcx hin Z hb2 HB
      rcases hq with rfl | ⟨z1, z2, z3⟩
      · go_wp2
        go_ret
        exact ⟨⟨-1, rfl, .inl rfl⟩, HB2.out⟩
      · have HZ3 : Hid ((kid k).small) := z3
        have nq : ¬ q < 0 := by omega
        clear z3
        go_wp2
        go_roundw
        case rel =>
          refine ⟨k + 1, q, by omega, by go_num, rfl, by omega, by omega, HB2, fun j hj => ?_⟩
          by_cases e : j = k
          · subst e
            exact HZ3.out
          · exact HH.out j (by omega)
        case measure => simp [intOf]; omega
    · obtain rfl : k = n := by omega
      go_wp2
      go_ret
      exact ⟨⟨r, rfl, .inr ⟨hr0, hr1, by omega, HH.out⟩⟩, HB.out⟩
set_option maxHeartbeats 2000000 in
theorem szByteSS_of (a : Option Addr) (cap n : Nat) (kid : Nat → SL) (l : Int) (w : World) (h1 : 0 ≤ l) (h2 : l ≤ 1048576) (hn : n ≤ 9223372036854775807) (hR : KRow 0 w 1 a n (fun i => (kid i).cells))
    (IH : ∀ i, i < n → ∀ (W : World) (l : Int), 0 ≤ l → l ≤ 1048576 → Below w.heap.size w W → Calls Tryz.prog 30 #[.slice (kid i).a (kid i).len (kid i).cap, .int .i64 l] W fun e w' => Sz (kid i).small e ∧ Below W.heap.size W w') :
    Calls Tryz.prog 13 #[.slice a n cap, .int .i64 l] w fun e w' => Sz (n ≤ 1048576 ∧ ∀ i, i < n → (kid i).small) e ∧ Below w.heap.size w w' := by
  by_cases hbig : l < n
  · clear hR IH
    go_enter Tryz.func13, Tryz.ntmps13
    go_wp2
    go_ret
    exact ⟨⟨-1, rfl, .inl rfl⟩, Below.refl _ _⟩
  by_cases hn0 : n = 0
  · subst hn0
    clear hR IH hn hbig
    have hbig : ¬ l < 0 := by omega
    go_enter Tryz.func13, Tryz.ntmps13
    go_wp2
    refine wp_loop_rounds 1 ?_
    rw [rounds_succ]
    go_wp2
    go_ret
    exact ⟨⟨_, rfl, .inr ⟨by omega, by omega, by omega, fun i hi => absurd hi (Nat.not_lt_zero _)⟩⟩, Below.refl _ _⟩
  obtain ⟨b, off, rfl, _, hlt, hc⟩ := hR.resolve_left hn0
  have HC : Hid (∀ i, i < n → ∀ c u, ((kid i).cells)[c]? = some u → w.cell? ⟨b, off + i + c, none⟩ = some u) := fun i hi c u hu => (by have h := hc i hi c u hu; rwa [Nat.mul_one] at h)
  have HI : Hid (∀ i, i < n → ∀ (W : World) (l : Int), 0 ≤ l → l ≤ 1048576 → Below w.heap.size w W → Calls Tryz.prog 30 #[.slice (kid i).a (kid i).len (kid i).cap, .int .i64 l] W fun e w' => Sz (kid i).small e ∧ Below W.heap.size W w') := IH
  clear hR hc IH
  go_enter Tryz.func13, Tryz.ntmps13
  go_wp2
  go_loopw [1, 5] (fun x i wr => ∃ (k : Nat) (r : Int), k ≤ n ∧ i = .int .i64 k ∧ x = .int .i64 r ∧ 0 ≤ r ∧ r ≤ 1048576 ∧ Hid (Below w.heap.size w wr) ∧ Hid (∀ j, j < k → (kid j).small))
    (fun _ i _ => n - (intOf i).toNat)
  case atStart => exact ⟨0, _, Nat.zero_le _, rfl, rfl, by omega, by omega, Below.refl _ _, fun j hj => absurd hj (Nat.not_lt_zero _)⟩
  case round =>
    obtain ⟨k, r, hk, rfl, rfl, hr0, hr1, HB, HH⟩ := hrel
    by_cases hlk : k < n
    · have hcx : ∀ c u, ((kid k).cells)[c]? = some u → wr.cell? ⟨b, off + k + c, none⟩ = some u := fun c u hu => (HB.out.cell (p := ⟨b, off + k + c, none⟩) hlt).trans (HC.out k hlk c u hu)
      have hc0 : wr.cell? ⟨b, off + k, none⟩ = some (.slice (kid k).a (kid k).len (kid k).cap) := by have h := hcx 0 _ rfl; simpa using h
      have Z := HI.out k hlk
      go_wp2_with fail
      refine (Z _ r hr0 hr1 HB.out).mono ?_
      rintro e w2 ⟨⟨q, rfl, hq⟩, hb2⟩
      have HB2 : Hid (Below w.heap.size w w2) := bl_trans HB.out hb2
      clear hcx hc0 Z hb2 HB
      rcases hq with rfl | ⟨z1, z2, z3⟩
      · go_wp2
        go_ret
        exact ⟨⟨-1, rfl, .inl rfl⟩, HB2.out⟩
      · have HZ3 : Hid ((kid k).small) := z3
        have nq : ¬ q < 0 := by omega
        clear z3
        go_wp2
        go_roundw
        case rel =>
          refine ⟨k + 1, q, by omega, by go_num, rfl, by omega, by omega, HB2, fun j hj => ?_⟩
          by_cases e : j = k
          · subst e
            exact HZ3.out
          · exact HH.out j (by omega)
        case measure => simp [intOf]; omega
    · obtain rfl : k = n := by omega
      go_wp2
      go_ret
      exact ⟨⟨r, rfl, .inr ⟨hr0, hr1, by omega, HH.out⟩⟩, HB.out⟩
theorem szTable_any (x : TL) (l : Int) (w : World) (h1 : 0 ≤ l) (h2 : l ≤ 1048576) (hc : x.came w) :
    Calls Tryz.prog 4 #[.agg #[.slice x.va x.vn x.vc, .slice x.ra x.rn x.rc], .int .i64 l] w fun e w' => Sz x.small e ∧ Below w.heap.size w w' := by
  have HZ1 : Hid (∀ (W : World) (l : Int), 0 ≤ l → l ≤ 1048576 → Below w.heap.size w W → Calls Tryz.prog 13 #[.slice x.va x.vn x.vc, .int .i64 l] W fun e w' => Sz (x.vn ≤ 1048576 ∧ ∀ i, i < x.vn → (x.var i).small) e ∧ Below W.heap.size W w') := fun W l h1 h2 hb => szByteSS_of x.va x.vc x.vn x.var l W h1 h2 hc.2.2.1 (hc.1.upper (Upper.of_below hb)) fun i hi W' l' a1 a2 hW => szByteS_sz (x.var i) l' W' a1 a2 (hc.2.1 i hi).1
  have HZ2 : Hid (∀ (W : World) (l : Int), 0 ≤ l → l ≤ 1048576 → Below w.heap.size w W → Calls Tryz.prog 14 #[.slice x.ra x.rn x.rc, .int .i64 l] W fun e w' => Sz (x.rn ≤ 1048576 ∧ ∀ i, i < x.rn → (x.row i).small) e ∧ Below W.heap.size W w') := fun W l h1 h2 hb => szSolS_of x.ra x.rc x.rn x.row l W h1 h2 hc.2.2.2.2.2 (hc.2.2.2.1.upper (Upper.of_below hb)) fun i hi W' l' a1 a2 hW => szSol_any (x.row i) l' W' a1 a2 ((hc.2.2.2.2.1 i hi).below (bl_trans hb hW))
  clear hc
  go_enter Tryz.func4, Tryz.ntmps4
  have Z1 := HZ1.out
  go_wp2_with fail
  refine (Z1 _ l h1 h2 (bl_a _)).mono ?_
  rintro e w1 ⟨⟨r1, rfl, hr1⟩, hb1⟩
  have HX1 : Hid (Box w1 w.heap.size [.slice x.va x.vn x.vc, .slice x.ra x.rn x.rc]) := (Box.new w #[.slice x.va x.vn x.vc, .slice x.ra x.rn x.rc] 25 _).below hb1
  have HB1 : Hid (Below w.heap.size w w1) := bl_trans (bl_a _) hb1
  clear hb1 Z1 
  rcases hr1 with rfl | ⟨p1, q1, s1⟩
  · go_wp2_with fail
    go_ret
    exact ⟨⟨-1, rfl, .inl rfl⟩, HB1.out⟩
  have n1 : ¬ r1 < 0 := by omega
  have HS1 : Hid (x.vn ≤ 1048576 ∧ ∀ i, i < x.vn → (x.var i).small) := s1
  clear s1
  have ld := HX1.out.2 1 _ rfl
  have Z2 := HZ2.out
  go_wp2_with fail
  refine (Z2 _ r1 p1 q1 HB1.out).mono ?_
  rintro e w2 ⟨⟨r2, rfl, hr2⟩, hb2⟩
  have HX2 : Hid (Box w2 w.heap.size [.slice x.va x.vn x.vc, .slice x.ra x.rn x.rc]) := HX1.out.below hb2
  have HB2 : Hid (Below w.heap.size w w2) := bl_trans HB1.out hb2
  clear hb2 Z2 ld HX1 HB1
  rcases hr2 with rfl | ⟨p2, q2, s2⟩
  · go_wp2_with fail
    go_ret
    exact ⟨⟨-1, rfl, .inl rfl⟩, HB2.out⟩
  have n2 : ¬ r2 < 0 := by omega
  have HS2 : Hid (x.rn ≤ 1048576 ∧ ∀ i, i < x.rn → (x.row i).small) := s2
  clear s2
  go_wp2_with fail
  go_ret
  exact ⟨⟨r2, rfl, .inr ⟨p2, q2, HS1.out, HS2.out.1, HS2.out.2⟩⟩, HB2.out⟩
end Go.Proofs.YtganfiajhokkmaaGreatDoor

/- TreC -/
namespace Go.Proofs.YtganfiajhokkmaaGreatDoor
open Go.RowKit Go.Deep
set_option maxRecDepth 100000

theorem upper_set {w : World} {g i : Nat} (v : Value) : Upper (g + 1) w (w.setCell ⟨g, i, none⟩ v) := by
  have hb : But g w (w.setCell ⟨g, i, none⟩ v) := (But.refl g w).set i v
  exact ⟨by rw [hb.size]; exact Nat.le_refl _, fun b h1 _ => hb.block b (by omega)⟩
theorem Upper.trans {B : Nat} {w w' w'' : World} (h : Upper B w w') (k : Upper B w' w'') : Upper B w w'' := ⟨Nat.le_trans h.size k.size, fun b h1 h2 => (k.block b h1 (Nat.lt_of_lt_of_le h2 h.size)).trans (h.block b h1 h2)⟩
theorem Upper.mono {B B' : Nat} {w w' : World} (h : Upper B w w') (hB : B ≤ B') : Upper B' w w' := ⟨h.size, fun b h1 h2 => h.block b (by omega) h2⟩
theorem upper_sets (g : Nat) : ∀ (vs : List Value) (o : Nat) (w : World), Upper (g + 1) w (w.setCells g o vs)
  | [], _, _ => ⟨Nat.le_refl _, fun _ _ _ => rfl⟩
  | v :: r, o, w => (upper_set v).trans (upper_sets g r (o + 1) (w.setCell ⟨g, o, none⟩ v))
theorem below_sets {w0 : World} (g : Nat) (hg : w0.heap.size ≤ g) : ∀ (vs : List Value) (o : Nat) (w : World), Below w0.heap.size w0 w → Below w0.heap.size w0 (w.setCells g o vs)
  | [], _, _, h => h
  | v :: r, o, _, h => below_sets g hg r (o + 1) _ (h.setCell (p := ⟨g, o, none⟩) hg v)
/-- A box that may be written. -/
def OB (w : World) (b : Nat) (L : List Value) : Prop := b < w.heap.size ∧ ∀ c u, L[c]? = some u → w.cell? ⟨b, c, none⟩ = some u ∧ w.frozen? ⟨b, c, none⟩ = false
theorem OB.new (w : World) (vs : Array Value) (t : TypeId) : OB (w.alloc (.cells vs t)) w.heap.size vs.toList := by
  refine ⟨by simp, fun c u hu => ⟨(Box.new w vs t _).2 c u hu, by simp [go_sem]⟩⟩
theorem OB.below {w w' : World} {b : Nat} {L : List Value} (h : OB w b L) (hb : Below w.heap.size w w') : OB w' b L := ⟨Nat.lt_of_lt_of_le h.1 hb.size, fun c u hu => ⟨(hb.cell (p := ⟨b, c, none⟩) h.1).trans (h.2 c u hu).1, (hb.frozen (p := ⟨b, c, none⟩) h.1).trans (h.2 c u hu).2⟩⟩
theorem OB.set {w : World} {b : Nat} {L : List Value} (h : OB w b L) (c : Nat) (v : Value) : OB (w.setCell ⟨b, c, none⟩ v) b (L.set c v) := by
  refine ⟨by simpa using h.1, fun j u hu => ?_⟩
  by_cases e : c = j
  · subst e
    by_cases hc : c < L.length
    · rw [List.getElem?_set, if_pos rfl, if_pos hc] at hu
      cases hu
      have h2 := h.2 c _ (List.getElem?_eq_getElem hc)
      exact ⟨set_same h2.1, by rw [World.frozen?_setCell]; exact h2.2⟩
    · rw [List.getElem?_eq_none (by rw [List.length_set]; omega)] at hu
      cases hu
  · rw [List.getElem?_set, if_neg e] at hu
    have h2 := h.2 j u hu
    exact ⟨(set_other (fun e' => e e'.symm)).trans h2.1, by rw [World.frozen?_setCell]; exact h2.2⟩
def setL : List Value → Nat → List Value → List Value
  | L, _, [] => L
  | L, o, v :: r => setL (L.set o v) (o + 1) r
theorem OB.sets {b : Nat} : ∀ (vs : List Value) (o : Nat) {w : World} {L : List Value}, OB w b L → OB (w.setCells b o vs) b (setL L o vs)
  | [], _, _, _, h => h
  | v :: r, o, _, _, h => OB.sets r (o + 1) (h.set o v)
theorem OB.upper {B : Nat} {w w' : World} {b : Nat} {L : List Value} (h : OB w b L) (hu : Upper B w w') (hB : B ≤ b) : OB w' b L := ⟨Nat.lt_of_lt_of_le h.1 hu.size, fun c u hc => ⟨(hu.cell hB h.1).trans (h.2 c u hc).1, (World.frozen?_of_block (w := w) (a := ⟨b, c, none⟩) (hu.block b hB h.1)).trans (h.2 c u hc).2⟩⟩
theorem OB.but {w w' : World} {g b : Nat} {L : List Value} (h : OB w b L) (hb : But g w w') (hne : b ≠ g) : OB w' b L := ⟨by rw [hb.size]; exact h.1, fun c u hc => ⟨(hb.cell (p := ⟨b, c, none⟩) hne).trans (h.2 c u hc).1, (World.frozen?_of_block (w := w) (a := ⟨b, c, none⟩) (hb.block b hne)).trans (h.2 c u hc).2⟩⟩
theorem but_trans {g : Nat} {w w' w'' : World} (h : But g w w') (k : But g w' w'') : But g w w'' := ⟨k.os.trans h.os, k.tape.trans h.tape, k.output.trans h.output, k.size.trans h.size, fun b hb => (k.block b hb).trans (h.block b hb)⟩
theorem but_sets (g : Nat) : ∀ (vs : List Value) (o : Nat) (w : World), But g w (w.setCells g o vs)
  | [], _, w => But.refl g w
  | v :: r, o, w => but_trans ((But.refl g w).set o v) (but_sets g r (o + 1) _)
theorem OB.box {w : World} {b : Nat} {L : List Value} (h : OB w b L) : Box w b L := ⟨h.1, fun c u hu => (h.2 c u hu).1⟩
theorem OB.there {w : World} {b : Nat} {L : List Value} (h : OB w b L) (o n : Nat) (hn : o + n ≤ L.length) : w.there b o n := fun j hj => by
  have h2 := h.2 (o + j) _ (List.getElem?_eq_getElem (by omega))
  exact ⟨by rw [h2.1]; rfl, h2.2⟩
theorem Box.upper {B : Nat} {w w' : World} {b : Nat} {L : List Value} (h : Box w b L) (hb : But B w w') (hne : b ≠ B) : Box w' b L := ⟨by rw [hb.size]; exact h.1, fun c u hc => (hb.cell (p := ⟨b, c, none⟩) hne).trans (h.2 c u hc)⟩
/-- Within a function that copies a struct: its argument in a box, the answer's box, the box that is filled. -/
structure TS (w0 W : World) (pc zc oc : List Value) : Prop where
  bl : Below w0.heap.size w0 W
  px : Box W w0.heap.size pc
  rz : OB W (w0.heap.size + 1) zc
  ox : OB W (w0.heap.size + 1 + 1) oc
theorem TS.new (w : World) (pc zc oc : Array Value) (t u v : TypeId) : TS w (((w.alloc (.cells pc t)).alloc (.cells zc u)).alloc (.cells oc v)) pc.toList zc.toList oc.toList := by
  refine ⟨bl_alloc (bl_alloc (bl_a _) _) _, ?_, ?_, ?_⟩
  · exact ((Box.new w pc t _).below (bl_a _)).below (bl_a _)
  · have h := (OB.new (w.alloc (.cells pc t)) zc u).below (bl_a (.cells oc v))
    simpa using h
  · have h := OB.new ((w.alloc (.cells pc t)).alloc (.cells zc u)) oc v
    simpa using h
theorem TS.below {w0 W W' : World} {pc zc oc : List Value} (h : TS w0 W pc zc oc) (hb : Below W.heap.size W W') : TS w0 W' pc zc oc := ⟨bl_trans h.bl hb, h.px.below hb, h.rz.below hb, h.ox.below hb⟩
theorem TS.set {w0 W : World} {pc zc oc : List Value} (h : TS w0 W pc zc oc) (c : Nat) (v : Value) : TS w0 (W.setCell ⟨w0.heap.size + 1 + 1, c, none⟩ v) pc zc (oc.set c v) := by
  have hb : But (w0.heap.size + 1 + 1) W (W.setCell ⟨w0.heap.size + 1 + 1, c, none⟩ v) := (But.refl _ _).set c v
  exact ⟨h.bl.setCell (p := ⟨w0.heap.size + 1 + 1, c, none⟩) (by show w0.heap.size ≤ w0.heap.size + 1 + 1; omega) v, h.px.upper hb (by omega), h.rz.but hb (by omega), h.ox.set c v⟩
theorem TS.sets {w0 W : World} {pc zc oc : List Value} (h : TS w0 W pc zc oc) (o : Nat) (vs : List Value) : TS w0 (W.setCells (w0.heap.size + 1 + 1) o vs) pc zc (setL oc o vs) :=
  ⟨below_sets _ (by omega) vs o W h.bl, h.px.upper (but_sets _ vs o W) (by omega), h.rz.but (but_sets _ vs o W) (by omega), h.ox.sets vs o⟩
theorem TS.base {w0 W : World} {pc zc oc : List Value} (h : TS w0 W pc zc oc) : w0.heap.size + 1 + 1 + 1 ≤ W.heap.size := h.ox.1
theorem results_cell {P : Program} {fn : Func} {tmps : Array Value} {w : World} {a : Nat} {t : TypeId} {ad : Addr} {v : Value} (hf : fn.results = #[.cell a t]) (ht : tmps.getD a undef = .pointer (some ad)) (hl : (loadVar t ad).run P w = .ok v w) : (results fn tmps).run P w = .ok v w := by
  have h2 : tmps[a]?.getD undef = .pointer (some ad) := by simpa using ht
  simp [results, hf, h2, asAddr, hl]
end Go.Proofs.YtganfiajhokkmaaGreatDoor
