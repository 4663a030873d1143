/- Texts put together: DvStrK DvStxA DvStxB DvStxC DvStxD DvStxE DvStxF -/
import Derived.Test.YtdcaicoomldmgaaGreatDoorMk15
import Derived.BigQuiet
import Derived.Test.YtdcaicoomldmgaaGreatDoorShs
import Derived.Deep.Upon
import Derived.Test.YtdcaicoomldmgaaGreatDoorMk08
import Derived.Test.YtdcaicoomldmgaaGreatDoorMk38
import Derived.Lib.QuietBelow
import Derived.Test.YtdcaicoomldmgaaGreatDoorMkWb
import Derived.Test.YtdcaicoomldmgaaGreatDoorMk44
import Derived.Test.YtdcaicoomldmgaaGreatDoorMk42
/- DvStrK -/
namespace Go.Proofs.YtdcaicoomldmgaaGreatDoor
open Go.RowKit Go.Deep
set_option maxRecDepth 100000

theorem sliceCompare_empty (p p' : Option Addr) (cap cap' : Nat) (w : World) :
    Calls Tryz.prog 120 #[.slice p 0 cap, .slice p' 0 cap'] w fun e w' => e = .returned (.int .i64 0) ∧ w' = w := by
  go_enter Tryz.func120, Tryz.ntmps120
  go_wp2_with fail
  go_loop [11] (fun i => i = .int .i64 0) (fun i => 0)
  case atStart => rfl
  case round =>
    subst hrel
    go_wp2_with fail
    go_ret
    exact ⟨rfl, rfl⟩

theorem Arr3.take {w : World} {g : Nat} {x : Int × Int × Int} (h : Arr3 w g x) (k : Nat) (hk : k ≤ 3) : Ints w g 0 ([x.1, x.2.1, x.2.2].take k) := by
  intro i hi
  have hi' : i < k ∧ i < 3 := by simp at hi; omega
  rw [List.getElem?_take_of_lt hi'.1]
  exact h.ints i (by simp; omega)

set_option maxHeartbeats 4000000 in
theorem compareKeys_any (o : Nat) (x : Int × Int × Int) (w : World) (ho : o < 6) (pk : Option Addr) (cap : Nat) (k : Nat) (ks : List Int) (hkl : ks.length = k) (hk : k ≤ 3) (hI : k = 0 ∨ ∃ b off, pk = some ⟨b, off, none⟩ ∧ b < w.heap.size ∧ Ints w b off ks) :
    Calls Tryz.prog 104 #[.int .i64 o, .agg #[.int .i64 x.1, .int .i64 x.2.1, .int .i64 x.2.2], .slice pk k cap] w fun e w' => e = .returned (.int .i64 (lexI ([(rkey o x).1, (rkey o x).2.1, (rkey o x).2.2].take k) ks)) ∧ Gr w w' := by
  have N1 := fun w => numbers_any o x w ho
  generalize rkey o x = p at *
  obtain ⟨r, hr⟩ : ∃ r, r = lexI ([p.1, p.2.1, p.2.2].take k) ks := ⟨_, rfl⟩
  have HCM : Hid (∀ (g : Nat) (w' : World), Gr w w' → Arr3 w' g p → Calls Tryz.prog 120 #[.slice (some ⟨g, 0, none⟩) k 3, .slice pk k cap] w' fun e w'' => e = .returned (.int .i64 r) ∧ w'' = w') := by
    show ∀ (g : Nat) (w' : World), _
    intro g w' hG h
    rcases hI with rfl | ⟨b, off, rfl, hb, hI⟩
    · have : r = 0 := by rw [hr]; simp [lexI]
      rw [this]
      exact sliceCompare_empty _ _ _ _ _
    · have hl : ([p.1, p.2.1, p.2.2].take k).length = k := by simp; omega
      have := sliceCompare_any g 0 3 b off cap ([p.1, p.2.1, p.2.2].take k) ks w' (by rw [hl, hkl]) (by rw [hl]; omega) (h.take k hk) (fun i hi => by
        exact gcell_keep hG (hI i hi) hb)
      rw [hl, ← hr] at this
      exact this
  rw [← hr]
  clear hI hr hkl
  have hk4 : k = 0 ∨ k = 1 ∨ k = 2 ∨ k = 3 := by omega
  clear hk
  rcases hk4 with rfl | rfl | rfl | rfl
  all_goals
    go_enter Tryz.func104, Tryz.ntmps104
    go_wp2_with fail
    refine (N1 _).mono ?_
    rintro e w1 ⟨rfl, o1, o2, rfl⟩
    clear N1
    go_wp2_with fail
    refine (HCM.out _ _ ?_ ?_).mono ?_
    · repeat (first | with_reducible exact Gr.refl _ | with_reducible apply gr_alloc | with_reducible apply gr_drew | with_reducible apply gr_drewN)
    · simp [Arr3, go_sem]
    rintro e w2 ⟨rfl, rfl⟩
    go_wp2_with fail
    go_ret
    refine ⟨rfl, ?_⟩
    repeat (first | with_reducible exact Gr.refl _ | with_reducible apply gr_alloc | with_reducible apply gr_drew | with_reducible apply gr_drewN)
end Go.Proofs.YtdcaicoomldmgaaGreatDoor

/- DvStxA -/
namespace Go.Proofs.YtdcaicoomldmgaaGreatDoor
open Go.RowKit Go.Deep Go.Sort Go.Lib
set_option maxRecDepth 100000

theorem lexI_cons (x y : Int) (xs ys : List Int) : lexI (x :: xs) (y :: ys) = if x < y then -1 else if y < x then 1 else lexI xs ys := by
  simp only [lexI, orI, cmpI]
  by_cases h : x < y
  · simp [h]
  · by_cases h' : y < x
    · simp [h, h']
    · simp [h, h']
theorem lexI_mono : ∀ (X Y ks : List Int), X.length = Y.length → ks.length ≤ X.length → lexI X Y ≤ 0 → (0 ≤ lexI (X.take ks.length) ks → 0 ≤ lexI (Y.take ks.length) ks) ∧ (0 < lexI (X.take ks.length) ks → 0 < lexI (Y.take ks.length) ks)
  | _, _, [], _, _, _ => by simp [lexI]
  | [], _, _ :: _, _, h, _ => by simp at h
  | _ :: _, [], _ :: _, h, _, _ => by simp at h
  | x :: xs, y :: ys, z :: zs, h1, h2, h3 => by
    simp only [List.length_cons, Nat.add_right_cancel_iff, Nat.add_le_add_iff_right] at h1 h2
    have ih := lexI_mono xs ys zs h1 h2
    rw [lexI_cons] at h3
    simp only [List.length_cons, List.take_succ_cons, lexI_cons]
    by_cases a1 : x < y
    · by_cases a2 : x < z
      · simp [a2]
      · have a3 : z < y := by omega
        have a4 : ¬ y < z := by omega
        simp [a3, a4]
    · rw [if_neg a1] at h3
      by_cases a2 : y < x
      · rw [if_pos a2] at h3
        omega
      · rw [if_neg a2] at h3
        obtain rfl : x = y := by omega
        by_cases a3 : x < z
        · simp [a3]
        · by_cases a4 : z < x
          · simp [a3, a4]
          · simp only [if_neg a3, if_neg a4]
            exact ih h3
theorem lexI_eq : ∀ (X ks : List Int), X.length = ks.length → (lexI X ks = 0 ↔ X = ks)
  | [], [], _ => by simp [lexI]
  | [], _ :: _, h => by simp at h
  | _ :: _, [], h => by simp at h
  | x :: xs, y :: ys, h => by
    have ih := lexI_eq xs ys (by simpa using h)
    rw [lexI_cons]
    by_cases a1 : x < y
    · simp [a1]; omega
    · by_cases a2 : y < x
      · simp [a1, a2]; omega
      · obtain rfl : x = y := by omega
        simp [ih]
/-- A list that is first below, then at, then above: the middle is what is at. -/
theorem mid_filter {α : Type} (f : α → Int) : ∀ (l : List α), l.Pairwise (fun x y => (0 ≤ f x → 0 ≤ f y) ∧ (0 < f x → 0 < f y)) →
    (l.drop (l.countP fun x => decide (f x < 0))).take ((l.countP fun x => decide (f x ≤ 0)) - l.countP fun x => decide (f x < 0)) = l.filter fun x => decide (f x = 0)
  | [], _ => by simp
  | x :: l, h => by
    have hp := List.pairwise_cons.1 h
    have ih := mid_filter f l hp.2
    by_cases h1 : f x < 0
    · have h2 : f x ≤ 0 := by omega
      have h3 : ¬ f x = 0 := by omega
      rw [List.countP_cons_of_pos (p := fun x => decide (f x < 0)) (by simpa using h1), List.countP_cons_of_pos (p := fun x => decide (f x ≤ 0)) (by simpa using h2), List.filter_cons_of_neg (by simpa using h3)]
      rw [List.drop_succ_cons, ← ih]
      congr 1
      omega
    · have e1 : (l.countP fun x => decide (f x < 0)) = 0 := by
        rw [List.countP_eq_zero]
        intro y hy
        have := (hp.1 y hy).1 (by omega)
        simpa using this
      rw [e1] at ih
      rw [List.countP_cons_of_neg (p := fun x => decide (f x < 0)) (by simpa using h1), e1]
      by_cases h2 : f x ≤ 0
      · rw [List.countP_cons_of_pos (p := fun x => decide (f x ≤ 0)) (by simpa using h2), List.filter_cons_of_pos (by simp; omega)]
        simp only [List.drop_zero, Nat.sub_zero, List.take_succ_cons] at ih ⊢
        rw [ih]
      · have e2 : (l.countP fun x => decide (f x ≤ 0)) = 0 := by
          rw [List.countP_eq_zero]
          intro y hy
          have := (hp.1 y hy).2 (by omega)
          simp
          omega
        rw [e2] at ih
        rw [List.countP_cons_of_neg (p := fun x => decide (f x ≤ 0)) (by simpa using h2), e2, List.filter_cons_of_neg (by simp; omega)]
        simpa using ih
theorem countP_mono_le {α : Type} (f : α → Int) (l : List α) : (l.countP fun x => decide (f x < 0)) ≤ l.countP fun x => decide (f x ≤ 0) :=
  List.countP_mono_left fun x _ h => by simp at h ⊢; omega

/-- How a row stands to the keys, in an order. -/
def kcmp (o : Nat) (ks : List Int) (x : Int × Int × Int) : Int := lexI ([(rkey o x).1, (rkey o x).2.1, (rkey o x).2.2].take ks.length) ks
/-- The rows that begin with the keys. -/
def scanL (o : Nat) (ks : List Int) (l : List (Int × Int × Int)) : List (Int × Int × Int) := l.filter fun x => decide (kcmp o ks x = 0)
theorem kcmp_mono {o : Nat} {ks : List Int} (hk : ks.length ≤ 3) {x y : Int × Int × Int} (h : rcmp o x y ≤ 0) : (0 ≤ kcmp o ks x → 0 ≤ kcmp o ks y) ∧ (0 < kcmp o ks x → 0 < kcmp o ks y) := by
  rw [← lexI_rcmp] at h
  exact lexI_mono _ _ ks rfl (by simpa using hk) h
theorem kcmp_eq {o : Nat} {ks : List Int} (hk : ks.length ≤ 3) (x : Int × Int × Int) : kcmp o ks x = 0 ↔ [(rkey o x).1, (rkey o x).2.1, (rkey o x).2.2].take ks.length = ks :=
  lexI_eq _ _ (by simp; omega)
theorem scanL_mid {o : Nat} {ks : List Int} (hk : ks.length ≤ 3) {l : List (Int × Int × Int)} (h : l.Pairwise (fun x y => rcmp o x y ≤ 0)) :
    (l.drop (l.countP fun x => decide (kcmp o ks x < 0))).take ((l.countP fun x => decide (kcmp o ks x ≤ 0)) - l.countP fun x => decide (kcmp o ks x < 0)) = scanL o ks l :=
  mid_filter (kcmp o ks) l (h.imp fun hxy => kcmp_mono hk hxy)

set_option maxHeartbeats 2000000 in
theorem scanC1_any (bo br bk o b off capR n : Nat) (x : Int × Int × Int) (pk : Option Addr) (capK k : Nat) (ks : List Int) (i : Nat) (W : World) (ho : o < 6) (hi : i < n) (hkl : ks.length = k) (hk : k ≤ 3)
    (lo : bo < W.heap.size) (lr : br < W.heap.size) (lk : bk < W.heap.size) (lb : b < W.heap.size)
    (c0 : W.cell? ⟨bo, 0, none⟩ = some (.int .i64 o)) (c1 : W.cell? ⟨br, 0, none⟩ = some (.slice (some ⟨b, off, none⟩) n capR)) (c2 : W.cell? ⟨bk, 0, none⟩ = some (.slice pk k capK))
    (r0 : W.cell? ⟨b, off + i * 3, none⟩ = some (.int .i64 x.1)) (r1 : W.cell? ⟨b, off + i * 3 + 1, none⟩ = some (.int .i64 x.2.1)) (r2 : W.cell? ⟨b, off + i * 3 + 2, none⟩ = some (.int .i64 x.2.2))
    (hI : k = 0 ∨ ∃ b off, pk = some ⟨b, off, none⟩ ∧ b < W.heap.size ∧ Ints W b off ks) :
    Calls Tryz.prog 103 (#[.int .i64 i] ++ #[.pointer (some ⟨bo, 0, none⟩), .pointer (some ⟨br, 0, none⟩), .pointer (some ⟨bk, 0, none⟩)]) W fun e w' => e = .returned (.bool (decide (0 ≤ kcmp o ks x))) ∧ ∃ q os, w' = grow (W.drewN q) os := by
  have hmix : Tryz.prog.follows .mixedOrders = true := by kernel_rfl
  have hcg : ∀ n os, Calls Tryz.prog 104 #[.int .i64 o, .agg #[.int .i64 x.1, .int .i64 x.2.1, .int .i64 x.2.2], .slice pk k capK] (grow (W.drewN n) os) fun e w' => e = .returned (.int .i64 (kcmp o ks x)) ∧ ∃ q os', w' = grow ((grow (W.drewN n) os).drewN q) os' := fun n os => by
    have := compareKeys_any o x (grow (W.drewN n) os) ho pk capK k ks hkl hk (by
      rcases hI with h | ⟨b, off, h1, h2, h3⟩
      · exact .inl h
      · refine .inr ⟨b, off, h1, by simp; omega, fun j hj => ?_⟩
        exact Go.cell_grown h2 (h3 j hj) n os)
    rw [← hkl] at this
    rw [← hkl]
    exact this.mono fun _ _ h => ⟨h.1, h.2.grown⟩
  have d0 := fun n os => Go.cell_grown lo c0 n os
  have d1 := fun n os => Go.cell_grown lr c1 n os
  have d2 := fun n os => Go.cell_grown lk c2 n os
  have e0 := fun n os => Go.cell_grown lb r0 n os
  have e1 := fun n os => Go.cell_grown lb r1 n os
  have e2 := fun n os => Go.cell_grown lb r2 n os
  generalize kcmp o ks x = q at *
  clear hI hkl hk c0 c1 c2 r0 r1 r2 lo lr lk lb ho
  have hiz : (i : Int) < (n : Int) := by omega
  go_enter Tryz.func103, Tryz.ntmps103
  go_wp2_with fail
  go_quiet_grown (first | (go_at_call 104; refine Calls.grown_of (hcg _ _)))
  go_wp2_with fail
  go_ret
  exact ⟨by simp, nq, osq, rfl⟩

set_option maxHeartbeats 2000000 in
theorem scanC2_any (bo br bk o b off capR n : Nat) (x : Int × Int × Int) (pk : Option Addr) (capK k : Nat) (ks : List Int) (i : Nat) (W : World) (ho : o < 6) (hi : i < n) (hkl : ks.length = k) (hk : k ≤ 3)
    (lo : bo < W.heap.size) (lr : br < W.heap.size) (lk : bk < W.heap.size) (lb : b < W.heap.size)
    (c0 : W.cell? ⟨bo, 0, none⟩ = some (.int .i64 o)) (c1 : W.cell? ⟨br, 0, none⟩ = some (.slice (some ⟨b, off, none⟩) n capR)) (c2 : W.cell? ⟨bk, 0, none⟩ = some (.slice pk k capK))
    (r0 : W.cell? ⟨b, off + i * 3, none⟩ = some (.int .i64 x.1)) (r1 : W.cell? ⟨b, off + i * 3 + 1, none⟩ = some (.int .i64 x.2.1)) (r2 : W.cell? ⟨b, off + i * 3 + 2, none⟩ = some (.int .i64 x.2.2))
    (hI : k = 0 ∨ ∃ b off, pk = some ⟨b, off, none⟩ ∧ b < W.heap.size ∧ Ints W b off ks) :
    Calls Tryz.prog 105 (#[.int .i64 i] ++ #[.pointer (some ⟨bo, 0, none⟩), .pointer (some ⟨br, 0, none⟩), .pointer (some ⟨bk, 0, none⟩)]) W fun e w' => e = .returned (.bool (decide (0 < kcmp o ks x))) ∧ ∃ q os, w' = grow (W.drewN q) os := by
  have hmix : Tryz.prog.follows .mixedOrders = true := by kernel_rfl
  have hcg : ∀ n os, Calls Tryz.prog 104 #[.int .i64 o, .agg #[.int .i64 x.1, .int .i64 x.2.1, .int .i64 x.2.2], .slice pk k capK] (grow (W.drewN n) os) fun e w' => e = .returned (.int .i64 (kcmp o ks x)) ∧ ∃ q os', w' = grow ((grow (W.drewN n) os).drewN q) os' := fun n os => by
    have := compareKeys_any o x (grow (W.drewN n) os) ho pk capK k ks hkl hk (by
      rcases hI with h | ⟨b, off, h1, h2, h3⟩
      · exact .inl h
      · refine .inr ⟨b, off, h1, by simp; omega, fun j hj => ?_⟩
        exact Go.cell_grown h2 (h3 j hj) n os)
    rw [← hkl] at this
    rw [← hkl]
    exact this.mono fun _ _ h => ⟨h.1, h.2.grown⟩
  have d0 := fun n os => Go.cell_grown lo c0 n os
  have d1 := fun n os => Go.cell_grown lr c1 n os
  have d2 := fun n os => Go.cell_grown lk c2 n os
  have e0 := fun n os => Go.cell_grown lb r0 n os
  have e1 := fun n os => Go.cell_grown lb r1 n os
  have e2 := fun n os => Go.cell_grown lb r2 n os
  generalize kcmp o ks x = q at *
  clear hI hkl hk c0 c1 c2 r0 r1 r2 lo lr lk lb ho
  have hiz : (i : Int) < (n : Int) := by omega
  go_enter Tryz.func105, Tryz.ntmps105
  go_wp2_with fail
  go_quiet_grown (first | (go_at_call 104; refine Calls.grown_of (hcg _ _)))
  go_wp2_with fail
  go_ret
  exact ⟨by simp, nq, osq, rfl⟩
end Go.Proofs.YtdcaicoomldmgaaGreatDoor

/- DvStxB -/
namespace Go.Proofs.YtdcaicoomldmgaaGreatDoor
open Go.RowKit Go.Deep Go.Sort Go.Lib
set_option maxRecDepth 100000

/-- append of rows to rows of the call's own. -/
theorem appRs {ops : Array Oper} {rest : List Oper} {o : Oper} {a : Act} {Q : Exit → Act → World → Prop} {w : World} (hgd : o.guard = none) (s x : Operand)
    (ho : o.op = .call { callee := .builtin .append, args := #[s, x], argTypes := #[57, 57] })
    (B : Nat) (v : Value) (us : List (Int × Int × Int)) (hs : a.eval s = v) (HO : Hid (OwnRR w B v us))
    (ad : Addr) (m c : Nat) (bs : List (Int × Int × Int)) (hx : a.eval x = .slice (some ad) m c) (hl : bs.length = m) (HN : Hid (∀ j u, (flat3 bs)[j]? = some u → w.cell? (ad.add j) = some u))
    (hm : 0 < m) (N : Nat) (hN : us.length + m = N) (zs : List (Int × Int × Int)) (hz : us ++ bs = zs) (hle : N ≤ 1000000000) (hB : B ≤ w.heap.size)
    (h : ∀ g cap w', Hid (OwnRR w' B (.slice (some ⟨g, 0, none⟩) N cap) zs) → Hid (Below B w w') → wpList Tryz.prog ops Q rest (a.put o.dst (.slice (some ⟨g, 0, none⟩) N cap)) w') :
    wpList Tryz.prog ops Q (o :: rest) a w := by
  obtain ⟨i0, hi0, hzz⟩ := Option.map_eq_some_iff.1 Tryz.info99
  simp only [Prod.mk.injEq] at hzz
  obtain ⟨hi2, hi1, hi3⟩ := hzz
  subst hN hz
  refine wpList_append_lies _ hgd s x 57 ho B 99 i0 (.agg #[.int .i64 0, .int .i64 0, .int .i64 0]) 3 24 Tryz.underlying57 hi0 hi2 hi1 hi3 rfl (by omega) v us.length (flat3 us) hs HO.out.1 ad m c (flat3 bs) hx (by rw [flat3_len, hl]) HN.out (flat3_one bs) hm (by unfold maxLen; omega) (by omega) hB _ rfl ?_
  intro g cap w' hown hgr hat hlt
  have hown' : w'.ownsRow B 99 3 (.slice (some ⟨g, 0, none⟩) (us.length + m) cap) (us ++ bs).length (flat3 (us ++ bs)) := by
    rw [flat3_append, List.length_append, hl]
    exact hown
  refine h g cap w' ⟨hown', fun g' hg' => ?_⟩ ?_
  · have : g = g' := by simpa [Value.ownBlock] using hg'
    subst this
    rcases hown.2 with ⟨hv, _⟩ | ⟨g0, c0, cur, hv, hb, _⟩
    · cases hv
    · cases hv; exact ⟨hb, hlt⟩
  · rcases HO.out.1.2 with ⟨hv, _⟩ | ⟨g0, c0, cur, hv, hb, _⟩
    · subst hv
      exact ⟨hgr.os, hgr.tape, hgr.output, hgr.size, fun b hb => hgr.block b (by omega) (by simp [Value.ownBlock])⟩
    · subst hv
      exact ⟨hgr.os, hgr.tape, hgr.output, hgr.size, fun b hb' => hgr.block b (by omega) (by intro e; have : b = g0 := (by simpa [Value.ownBlock] using e); omega)⟩

/-- append of no rows. -/
theorem appR0 {ops : Array Oper} {rest : List Oper} {o : Oper} {a : Act} {Q : Exit → Act → World → Prop} {w : World} (hgd : o.guard = none) (s x : Operand)
    (ho : o.op = .call { callee := .builtin .append, args := #[s, x], argTypes := #[57, 57] })
    (base : Option Addr) (c : Nat) (hs : a.eval s = .slice base 0 c) (y : Option Addr) (c' : Nat) (hx : a.eval x = .slice y 0 c')
    (h : wpList Tryz.prog ops Q rest (a.put o.dst (.slice base 0 c)) w) : wpList Tryz.prog ops Q (o :: rest) a w := by
  obtain ⟨i0, hi0, hzz⟩ := Option.map_eq_some_iff.1 Tryz.info99
  refine wpList_plain hgd fun _ hK => ?_
  have hsrc : Src Tryz.prog i0.size 57 (.slice y 0 c') 0 [] w := by
    refine ⟨.inl ⟨_, Tryz.underlying57⟩, fun w' => by simp [Builtin.lenOf], ?_, ?_, by simp, fun u hu => by cases hu⟩
    · cases y with
      | none => simp [Builtin.firstCells]
      | some a => simp [Builtin.firstCells]; rfl
    · cases y with
      | none => simp [Builtin.firstCells]
      | some a => simp [Builtin.firstCells]; rfl
  have hr := run_append_nothing (P := Tryz.prog) w 57 57 o.type 99 i0 Tryz.underlying57 hi0 base 0 c (by omega) (.slice y 0 c') hsrc
  unfold Oper.wp execOp
  simp only [ho, resolve, invoke, builtin, Sem.run_bind, Sem.run_pure, Result.andThen_ok, List.map_toArray, List.map_cons, List.map_nil, hs, hx, hr]
  exact hK _ _ h

theorem flat3_piece {l : List (Int × Int × Int)} {f m j : Nat} {u : Value} (hu : (flat3 ((l.drop f).take m))[j]? = some u) : (flat3 l)[f * 3 + j]? = some u := by
  have hj : j < ((l.drop f).take m).length * 3 := by
    have := (List.getElem?_eq_some_iff.1 hu).1
    rwa [flat3_len] at this
  have hi : j / 3 < ((l.drop f).take m).length := by omega
  have hi' := hi
  rw [List.length_take, List.length_drop] at hi'
  have hc : j % 3 < 3 := Nat.mod_lt _ (by omega)
  have e : j = j / 3 * 3 + j % 3 := by omega
  rw [e, flat3_get _ _ _ hi hc] at hu
  have e2 : f * 3 + j = (f + j / 3) * 3 + j % 3 := by omega
  rw [e2, flat3_get l (f + j / 3) (j % 3) (by omega) hc]
  simpa using hu
theorem addr_add (b off j : Nat) : (⟨b, off, none⟩ : Addr).add j = ⟨b, off + j, none⟩ := by
  by_cases h0 : j = 0 <;> simp [Addr.add, h0]

theorem list_range {α : Type} (d : α) (l : List α) : l = (List.range l.length).map fun i => l[i]?.getD d := by
  apply List.ext_getElem
  · simp
  · intro i h1 h2
    simp [List.getElem?_eq_getElem h1]
theorem countP_at {α : Type} (d : α) (f : α → Bool) (l : List α) : (List.range l.length).countP (fun i => f (l[i]?.getD d)) = l.countP f := by
  have h := congrArg (List.countP f) (list_range d l)
  rw [List.countP_map] at h
  exact h.symm

/-- What the closures of a scan see: the order, the rows, the keys, in their boxes. -/
structure SC (W : World) (bo br bk o : Nat) (ar : Option Addr) (capR : Nat) (l : List (Int × Int × Int)) (pk : Option Addr) (capK : Nat) (ks : List Int) : Prop where
  lo : bo < W.heap.size
  lr : br < W.heap.size
  lk : bk < W.heap.size
  c0 : W.cell? ⟨bo, 0, none⟩ = some (.int .i64 o)
  c1 : W.cell? ⟨br, 0, none⟩ = some (.slice ar l.length capR)
  c2 : W.cell? ⟨bk, 0, none⟩ = some (.slice pk ks.length capK)
  hR : RRow W ar l
  hI : ks.length = 0 ∨ ∃ b off, pk = some ⟨b, off, none⟩ ∧ b < W.heap.size ∧ Ints W b off ks
theorem SC.grown {W : World} {bo br bk o : Nat} {ar : Option Addr} {capR : Nat} {l : List (Int × Int × Int)} {pk : Option Addr} {capK : Nat} {ks : List Int} (h : SC W bo br bk o ar capR l pk capK ks) (q : Nat) (os : Array Obj) : SC (grow (W.drewN q) os) bo br bk o ar capR l pk capK ks := by
  have hs : W.heap.size ≤ (grow (W.drewN q) os).heap.size := by simp
  refine ⟨Nat.lt_of_lt_of_le h.lo hs, Nat.lt_of_lt_of_le h.lr hs, Nat.lt_of_lt_of_le h.lk hs, Go.cell_grown h.lo h.c0 q os, Go.cell_grown h.lr h.c1 q os, Go.cell_grown h.lk h.c2 q os, ?_, ?_⟩
  · rcases h.hR with e | ⟨b, off, e, hb, hc⟩
    · exact .inl e
    · exact .inr ⟨b, off, e, Nat.lt_of_lt_of_le hb hs, fun j u hu => Go.cell_grown hb (hc j u hu) q os⟩
  · rcases h.hI with e | ⟨b, off, e, hb, hc⟩
    · exact .inl e
    · exact .inr ⟨b, off, e, Nat.lt_of_lt_of_le hb hs, fun j hj => Go.cell_grown hb (hc j hj) q os⟩
theorem RRow.at3 {w : World} {ar : Option Addr} {l : List (Int × Int × Int)} (h : RRow w ar l) {i : Nat} {x : Int × Int × Int} (hx : l[i]? = some x) : ∃ b off, ar = some ⟨b, off, none⟩ ∧ b < w.heap.size ∧ w.cell? ⟨b, off + i * 3, none⟩ = some (.int .i64 x.1) ∧ w.cell? ⟨b, off + i * 3 + 1, none⟩ = some (.int .i64 x.2.1) ∧ w.cell? ⟨b, off + i * 3 + 2, none⟩ = some (.int .i64 x.2.2) := by
  obtain ⟨hi, rfl⟩ := List.getElem?_eq_some_iff.1 hx
  rcases h with ⟨_, rfl⟩ | ⟨b, off, e, hb, hc⟩
  · simp at hi
  · refine ⟨b, off, e, hb, ?_, ?_, ?_⟩
    · exact hc (i * 3) _ (by have := flat3_get l i 0 hi (by omega); rw [Nat.add_zero] at this; rw [this]; rfl)
    · have := hc (i * 3 + 1) _ (by rw [flat3_get l i 1 hi (by omega)]; rfl)
      rwa [← Nat.add_assoc] at this
    · have := hc (i * 3 + 2) _ (by rw [flat3_get l i 2 hi (by omega)]; rfl)
      rwa [← Nat.add_assoc] at this

theorem search1_any {W : World} {bo br bk o : Nat} {ar : Option Addr} {capR : Nat} {l : List (Int × Int × Int)} {pk : Option Addr} {capK : Nat} {ks : List Int} (h : SC W bo br bk o ar capR l pk capK ks) (ho : o < 6) (hl : l.length ≤ 1048576) (hk : ks.length ≤ 3) (hs : l.Pairwise (fun x y => rcmp o x y ≤ 0)) :
    Calls Tryz.prog 102 #[.int .i64 l.length, .func (.func 103) #[] #[.pointer (some ⟨bo, 0, none⟩), .pointer (some ⟨br, 0, none⟩), .pointer (some ⟨bk, 0, none⟩)]] W fun e w' => e = .returned (.int .i64 (l.countP fun x => decide (kcmp o ks x < 0) : Nat)) ∧ ∃ q os, w' = grow (W.drewN q) os := by
  have hS := Any.sort_Search Tryz.search 103 #[.pointer (some ⟨bo, 0, none⟩), .pointer (some ⟨br, 0, none⟩), .pointer (some ⟨bk, 0, none⟩)] l.length (fun i => decide (0 ≤ kcmp o ks (l[i]?.getD (0, 0, 0)))) W (enters_of Tryz.func103 (by kernel_rfl) rfl) (by omega)
    (fun m os i hi => by
      have h' := h.grown m os
      obtain ⟨x, hx⟩ : ∃ x, l[i]? = some x := ⟨_, List.getElem?_eq_getElem hi⟩
      obtain ⟨b, off, rfl, hb, e0, e1, e2⟩ := h'.hR.at3 hx
      have := scanC1_any bo br bk o b off capR l.length x pk capK ks.length ks i _ ho hi rfl hk h'.lo h'.lr h'.lk hb h'.c0 h'.c1 h'.c2 e0 e1 e2 h'.hI
      rw [hx]
      exact this)
    (fun a b hab hb hp => by
      have ea : l[a]? = some l[a] := List.getElem?_eq_getElem (by omega)
      have eb : l[b]? = some l[b] := List.getElem?_eq_getElem hb
      simp only [ea, eb, Option.getD_some, decide_eq_true_eq] at hp ⊢
      by_cases e : a = b
      · subst e; exact hp
      · exact (kcmp_mono hk (List.pairwise_iff_getElem.1 hs a b (by omega) hb (by omega))).1 hp)
  have e : (List.range l.length).countP (fun i => !decide (0 ≤ kcmp o ks (l[i]?.getD (0, 0, 0)))) = l.countP fun x => decide (kcmp o ks x < 0) := by
    rw [countP_at (0, 0, 0) (fun x => !decide (0 ≤ kcmp o ks x)) l]
    refine List.countP_congr fun x _ => ?_
    simp
  rw [e] at hS
  exact hS
theorem search2_any {W : World} {bo br bk o : Nat} {ar : Option Addr} {capR : Nat} {l : List (Int × Int × Int)} {pk : Option Addr} {capK : Nat} {ks : List Int} (h : SC W bo br bk o ar capR l pk capK ks) (ho : o < 6) (hl : l.length ≤ 1048576) (hk : ks.length ≤ 3) (hs : l.Pairwise (fun x y => rcmp o x y ≤ 0)) :
    Calls Tryz.prog 102 #[.int .i64 l.length, .func (.func 105) #[] #[.pointer (some ⟨bo, 0, none⟩), .pointer (some ⟨br, 0, none⟩), .pointer (some ⟨bk, 0, none⟩)]] W fun e w' => e = .returned (.int .i64 (l.countP fun x => decide (kcmp o ks x ≤ 0) : Nat)) ∧ ∃ q os, w' = grow (W.drewN q) os := by
  have hS := Any.sort_Search Tryz.search 105 #[.pointer (some ⟨bo, 0, none⟩), .pointer (some ⟨br, 0, none⟩), .pointer (some ⟨bk, 0, none⟩)] l.length (fun i => decide (0 < kcmp o ks (l[i]?.getD (0, 0, 0)))) W (enters_of Tryz.func105 (by kernel_rfl) rfl) (by omega)
    (fun m os i hi => by
      have h' := h.grown m os
      obtain ⟨x, hx⟩ : ∃ x, l[i]? = some x := ⟨_, List.getElem?_eq_getElem hi⟩
      obtain ⟨b, off, rfl, hb, e0, e1, e2⟩ := h'.hR.at3 hx
      have := scanC2_any bo br bk o b off capR l.length x pk capK ks.length ks i _ ho hi rfl hk h'.lo h'.lr h'.lk hb h'.c0 h'.c1 h'.c2 e0 e1 e2 h'.hI
      rw [hx]
      exact this)
    (fun a b hab hb hp => by
      have ea : l[a]? = some l[a] := List.getElem?_eq_getElem (by omega)
      have eb : l[b]? = some l[b] := List.getElem?_eq_getElem hb
      simp only [ea, eb, Option.getD_some, decide_eq_true_eq] at hp ⊢
      by_cases e : a = b
      · subst e; exact hp
      · exact (kcmp_mono hk (List.pairwise_iff_getElem.1 hs a b (by omega) hb (by omega))).2 hp)
  have e : (List.range l.length).countP (fun i => !decide (0 < kcmp o ks (l[i]?.getD (0, 0, 0)))) = l.countP fun x => decide (kcmp o ks x ≤ 0) := by
    rw [countP_at (0, 0, 0) (fun x => !decide (0 < kcmp o ks x)) l]
    refine List.countP_congr fun x _ => ?_
    simp
  rw [e] at hS
  exact hS

/-- What scan answers: rows of its own. -/
def ScanRes (w : World) (L : List (Int × Int × Int)) (e : Ending) (w' : World) : Prop := ∃ a cap, e = .returned (.slice a L.length cap) ∧ OwnRR w' w.heap.size (.slice a L.length cap) L ∧ Below w.heap.size w w'

set_option maxHeartbeats 4000000 in
theorem scan_any (o : Nat) (ar : Option Addr) (capR : Nat) (l : List (Int × Int × Int)) (pk : Option Addr) (capK : Nat) (ks : List Int) (w : World) (ho : o < 6) (hl : l.length ≤ 1048576) (hcap : l.length ≤ capR) (hk : ks.length ≤ 3) (hR : RRow w ar l) (hI : ks.length = 0 ∨ ∃ b off, pk = some ⟨b, off, none⟩ ∧ b < w.heap.size ∧ Ints w b off ks) (hs : l.Pairwise (fun x y => rcmp o x y ≤ 0)) :
    Calls Tryz.prog 63 #[.int .i64 o, .slice ar l.length capR, .slice pk ks.length capK] w (ScanRes w (scanL o ks l)) := by
  have HM : Hid _ := scanL_mid hk hs
  have hle : (l.countP fun x => decide (kcmp o ks x < 0)) ≤ l.countP fun x => decide (kcmp o ks x ≤ 0) := countP_mono_le (kcmp o ks) l
  have hln : (l.countP fun x => decide (kcmp o ks x ≤ 0)) ≤ l.length := List.countP_le_length
  have HSC : Hid (∀ W, SC W w.heap.size (w.heap.size + 1) (w.heap.size + 1 + 1) o ar capR l pk capK ks → (Calls Tryz.prog 102 #[.int .i64 l.length, .func (.func 103) #[] #[.pointer (some ⟨w.heap.size, 0, none⟩), .pointer (some ⟨w.heap.size + 1, 0, none⟩), .pointer (some ⟨w.heap.size + 1 + 1, 0, none⟩)]] W fun e w' => e = .returned (.int .i64 (l.countP fun x => decide (kcmp o ks x < 0) : Nat)) ∧ ∃ q os, w' = grow (W.drewN q) os) ∧
      Calls Tryz.prog 102 #[.int .i64 l.length, .func (.func 105) #[] #[.pointer (some ⟨w.heap.size, 0, none⟩), .pointer (some ⟨w.heap.size + 1, 0, none⟩), .pointer (some ⟨w.heap.size + 1 + 1, 0, none⟩)]] W fun e w' => e = .returned (.int .i64 (l.countP fun x => decide (kcmp o ks x ≤ 0) : Nat)) ∧ ∃ q os, w' = grow (W.drewN q) os) := fun W h => ⟨search1_any h ho hl hk hs, search2_any h ho hl hk hs⟩
  obtain ⟨W0, hW0⟩ : ∃ W0, W0 = ((w.alloc (.cells #[.int .i64 o] 75)).alloc (.cells #[.slice ar l.length capR] 57)).alloc (.cells #[.slice pk ks.length capK] 56) := ⟨_, rfl⟩
  have hB0 : Below w.heap.size w W0 := by rw [hW0]; exact bl_alloc (bl_alloc (bl_a _) _) _
  have hSC0 : SC W0 w.heap.size (w.heap.size + 1) (w.heap.size + 1 + 1) o ar capR l pk capK ks := by
    refine ⟨by rw [hW0]; simp; omega, by rw [hW0]; simp, by rw [hW0]; simp, by rw [hW0]; simp [go_sem], by rw [hW0]; simp [go_sem], by rw [hW0]; simp [go_sem], hR.below hB0, ?_⟩
    rcases hI with e | ⟨b, off, e, hb, hc⟩
    · exact .inl e
    · exact .inr ⟨b, off, e, Nat.lt_of_lt_of_le hb hB0.size, fun j hj => (hB0.cell (p := ⟨b, off + j, none⟩) hb).trans (hc j hj)⟩
  have HS0 : Hid (SC W0 w.heap.size (w.heap.size + 1) (w.heap.size + 1 + 1) o ar capR l pk capK ks) := hSC0
  have HB0 : Hid (Below w.heap.size w W0) := hB0
  have h1 := (HSC.out W0 hSC0).1
  have HL : Hid ((scanL o ks l).length = (l.countP fun x => decide (kcmp o ks x ≤ 0)) - l.countP fun x => decide (kcmp o ks x < 0)) := by
    show _ = _
    rw [← HM.out, List.length_take, List.length_drop]
    omega
  generalize (l.countP fun x => decide (kcmp o ks x < 0)) = f1 at *
  generalize (l.countP fun x => decide (kcmp o ks x ≤ 0)) = f2 at *
  clear hSC0 hB0 hI hR hs
  obtain ⟨n, hn⟩ : ∃ n, n = l.length := ⟨_, rfl⟩
  have HN : Hid (n = l.length) := hn
  rw [← hn] at h1 hl hcap hln hW0 ⊢
  obtain ⟨k, hk'⟩ : ∃ k, k = ks.length := ⟨_, rfl⟩
  have HK : Hid (k = ks.length) := hk'
  rw [← hk'] at hW0 hk ⊢
  clear hn hk'
  go_enter Tryz.func63, Tryz.ntmps63
  go_wp2_with fail
  rw [← hW0]
  refine h1.mono ?_
  rintro e w1 ⟨rfl, q1, os1, rfl⟩
  have HS1 : Hid (SC (grow (W0.drewN q1) os1) w.heap.size (w.heap.size + 1) (w.heap.size + 1 + 1) o ar capR l pk capK ks) := HS0.out.grown q1 os1
  have HB1 : Hid (Below w.heap.size w (grow (W0.drewN q1) os1)) := HB0.out.trans (below_grown_sl w.heap.size W0 q1 os1 HB0.out.size)
  clear h1 hW0 HS0 HB0
  generalize grow (W0.drewN q1) os1 = W1 at HS1 HB1 ⊢
  have h2 := (HSC.out W1 HS1.out).2
  rw [← HN.out] at h2
  have c1 := HS1.out.c1
  rw [← HN.out] at c1
  go_wp2_with fail
  refine h2.mono ?_
  rintro e w2 ⟨rfl, q2, os2, rfl⟩
  have HS2 : Hid (SC (grow (W1.drewN q2) os2) w.heap.size (w.heap.size + 1) (w.heap.size + 1 + 1) o ar capR l pk capK ks) := HS1.out.grown q2 os2
  have HB2 : Hid (Below w.heap.size w (grow (W1.drewN q2) os2)) := HB1.out.trans (below_grown_sl w.heap.size W1 q2 os2 HB1.out.size)
  clear h2 c1 HS1 HB1 HSC
  generalize grow (W1.drewN q2) os2 = W2 at HS2 HB2 ⊢
  have c1 : ∀ o, (W2.alloc o).cell? ⟨w.heap.size + 1, 0, none⟩ = some (.slice ar n capR) := fun o => by
    rw [HN.out]
    exact ((bl_a o).cell (p := ⟨w.heap.size + 1, 0, none⟩) HS2.out.lr).trans HS2.out.c1
  have hW2 : w.heap.size ≤ W2.heap.size := HB2.out.size
  by_cases hm : f1 < f2
  · obtain ⟨b, off, ea, hb, hc⟩ : ∃ b off, ar = some ⟨b, off, none⟩ ∧ b < W2.heap.size ∧ ∀ j u, (flat3 l)[j]? = some u → W2.cell? ⟨b, off + j, none⟩ = some u := by
      rcases HS2.out.hR with ⟨_, e⟩ | h
      · rw [e] at HN
        have := HN.out
        simp at this
        omega
      · exact h
    subst ea
    have HO : Hid (OwnRR (W2.alloc (.cells #[] 99)) w.heap.size (.slice (some ⟨W2.heap.size, 0, none⟩) 0 0) []) := by
      refine ⟨⟨rfl, .inr ⟨W2.heap.size, 0, #[], rfl, hW2, Go.heap_alloc_new _ _, Nat.le_refl _, Nat.zero_le _, rfl, rfl⟩⟩, fun g hg => ?_⟩
      have : W2.heap.size = g := by simpa [Value.ownBlock] using hg
      subst this
      exact ⟨hW2, by simp⟩
    have HNW : Hid (∀ j u, (flat3 (scanL o ks l))[j]? = some u → (W2.alloc (.cells #[] 99)).cell? ((⟨b, off + f1 * 3, none⟩ : Addr).add j) = some u) := fun j u hu => by
      rw [← HM.out] at hu
      rw [addr_add, Nat.add_assoc]
      exact ((bl_a _).cell (p := ⟨b, off + (f1 * 3 + j), none⟩) hb).trans (hc _ u (flat3_piece hu))
    have hs2 : w.heap.size ≤ (W2.alloc (.cells #[] 99)).heap.size := by simp; omega
    have hfc : ¬ f1 = capR := by omega
    have hfz : (f1 : Int) ≤ (f2 : Int) := by omega
    have hfz2 : (f2 : Int) ≤ (capR : Int) := by omega
    clear hc
    go_wp2_with (refine appRs rfl (.tmp 17) (.tmp 21) rfl w.heap.size (.slice (some ⟨W2.heap.size, 0, none⟩) 0 0) [] rfl HO ⟨b, off + f1 * 3, none⟩ (f2 - f1) (capR - f1) (scanL o ks l) rfl HL.out HNW (by omega) (f2 - f1) (by simp) (scanL o ks l) (by simp) (by omega) hs2 ?_; intro g3 c3 w3 HR3 HB3)
    go_ret
    refine ⟨some ⟨g3, 0, none⟩, c3, by rw [HL.out]; rfl, by rw [HL.out]; exact HR3.out, (bl_alloc HB2.out _).trans HB3.out⟩
  · obtain rfl : f1 = f2 := by omega
    have HE : Hid (scanL o ks l = []) := List.eq_nil_of_length_eq_zero (by rw [HL.out]; omega)
    have hOwn : OwnRR (W2.alloc (.cells #[] 99)) w.heap.size (.slice (some ⟨W2.heap.size, 0, none⟩) 0 0) [] := by
      refine ⟨⟨rfl, .inr ⟨W2.heap.size, 0, #[], rfl, hW2, Go.heap_alloc_new _ _, Nat.le_refl _, Nat.zero_le _, rfl, rfl⟩⟩, fun g hg => ?_⟩
      have : W2.heap.size = g := by simpa [Value.ownBlock] using hg
      subst this
      exact ⟨hW2, by simp⟩
    have HO : Hid (OwnRR (W2.alloc (.cells #[] 99)) w.heap.size (.slice (some ⟨W2.heap.size, 0, none⟩) 0 0) []) := hOwn
    clear hOwn
    have hfz2 : (f1 : Int) ≤ (capR : Int) := by omega
    go_wp2_with (refine appR0 rfl (.tmp 17) (.tmp 21) rfl (some ⟨W2.heap.size, 0, none⟩) 0 rfl _ _ rfl ?_)
    all_goals go_ret
    all_goals exact ⟨some ⟨W2.heap.size, 0, none⟩, 0, by rw [HE.out]; rfl, by rw [HE.out]; exact HO.out, bl_alloc HB2.out _⟩
end Go.Proofs.YtdcaicoomldmgaaGreatDoor

/- DvStxC -/
namespace Go.Proofs.YtdcaicoomldmgaaGreatDoor
open Go.RowKit Go.Deep Go.Sort Go.Lib
set_option maxRecDepth 100000

theorem rk_at (o : Nat) (x : Int × Int × Int) (j : Nat) (hj : j < 3) : [(rkey o x).1, (rkey o x).2.1, (rkey o x).2.2][j]? = some (rk o j x) := by
  have h : j = 0 ∨ j = 1 ∨ j = 2 := by omega
  rcases h with rfl | rfl | rfl <;> simp [rk]
/-- A row begins with the keys, key by key. -/
theorem kcmp_rk {o : Nat} {ks : List Int} (hk : ks.length ≤ 3) (x : Int × Int × Int) : kcmp o ks x = 0 ↔ ∀ j, j < ks.length → rk o j x = ks[j]?.getD 0 := by
  rw [kcmp_eq hk]
  constructor
  · intro h j hj
    have e : ([(rkey o x).1, (rkey o x).2.1, (rkey o x).2.2].take ks.length)[j]? = some (rk o j x) := by
      rw [List.getElem?_take_of_lt hj]
      exact rk_at o x j (by omega)
    rw [h] at e
    rw [e]
    rfl
  · intro h
    apply List.ext_getElem?
    intro j
    by_cases hj : j < ks.length
    · rw [List.getElem?_take_of_lt hj, rk_at o x j (by omega), h j hj, List.getElem?_eq_getElem hj]
      rfl
    · rw [List.getElem?_eq_none (by simp; omega), List.getElem?_eq_none (by omega)]
theorem scanL_step {o : Nat} {ks : List Int} {l : List (Int × Int × Int)} {j : Nat} {x : Int × Int × Int} (hx : l[j]? = some x) : scanL o ks (l.take (j + 1)) = scanL o ks (l.take j) ++ if kcmp o ks x = 0 then [x] else [] := by
  obtain ⟨hj, rfl⟩ := List.getElem?_eq_some_iff.1 hx
  rw [List.take_add_one, List.getElem?_eq_getElem hj]
  simp only [scanL, Option.toList_some, List.filter_append]
  by_cases h : kcmp o ks l[j] = 0
  · simp [h]
  · simp [h]

set_option maxHeartbeats 8000000 in
theorem l3scan_any (p o : Nat) (aR : Option Addr) (capR : Nat) (rbs : List RB) (x : RB) (pk : Option Addr) (capK : Nat) (ks : List Int) (w : World) (ho : o < 6) (hx : rbs[o]? = some x) (hl : x.l.length ≤ 1048576) (hk : ks.length ≤ 3)
    (hp : p < w.heap.size) (hp1 : w.cell? ⟨p, 1, none⟩ = some (.slice aR rbs.length capR)) (hS : SRow w aR rbs) (hR : RRow w x.a x.l) (hI : ks.length = 0 ∨ ∃ b off, pk = some ⟨b, off, none⟩ ∧ b < w.heap.size ∧ Ints w b off ks) :
    Calls Tryz.prog 61 #[.pointer (some ⟨p, 0, none⟩), .int .i64 o, .slice pk ks.length capK] w (ScanRes w (scanL o ks x.l)) := by
  obtain ⟨hoR, _⟩ := List.getElem?_eq_some_iff.1 hx
  obtain ⟨bR, oR, rfl, hbR, hcR⟩ := hS.resolve_left (fun e => by rw [e] at hoR; simp at hoR)
  have hrow := hcR o x hx
  have HP : Hid (∀ W, Below w.heap.size w W → W.cell? ⟨p, 1, none⟩ = some (.slice (some ⟨bR, oR, none⟩) rbs.length capR) ∧ W.cell? ⟨bR, oR + o, none⟩ = some (.slice x.a x.l.length x.cap)) := fun W hW => ⟨(hW.cell (p := ⟨p, 1, none⟩) hp).trans hp1, (hW.cell (p := ⟨bR, oR + o, none⟩) hbR).trans hrow⟩
  have HRW : Hid (∀ W, Below w.heap.size w W → ∀ i y, x.l[i]? = some y → ∃ b off, x.a = some ⟨b, off, none⟩ ∧ W.cell? ⟨b, off + i * 3, none⟩ = some (.int .i64 y.1) ∧ W.cell? ⟨b, off + i * 3 + 1, none⟩ = some (.int .i64 y.2.1) ∧ W.cell? ⟨b, off + i * 3 + 2, none⟩ = some (.int .i64 y.2.2)) := fun W hW i y hy => by
    obtain ⟨b, off, e, hb, e0, e1, e2⟩ := (hR.below hW).at3 hy
    exact ⟨b, off, e, e0, e1, e2⟩
  have HKY : Hid (∀ W, Below w.heap.size w W → ∀ j, j < ks.length → ∃ b off, pk = some ⟨b, off, none⟩ ∧ W.cell? ⟨b, off + j, none⟩ = some (.int .i64 (ks[j]?.getD 0))) := fun W hW j hj => by
    rcases hI with e | ⟨b, off, e, hb, hc⟩
    · omega
    · exact ⟨b, off, e, (hW.cell (p := ⟨b, off + j, none⟩) hb).trans (hc j hj)⟩
  have HKR : Hid (∀ y, kcmp o ks y = 0 ↔ ∀ j, j < ks.length → rk o j y = ks[j]?.getD 0) := fun y => kcmp_rk hk y
  obtain ⟨n, hn⟩ : ∃ n, n = x.l.length := ⟨_, rfl⟩
  have HN : Hid (n = x.l.length) := hn
  obtain ⟨k, hk'⟩ : ∃ k, k = ks.length := ⟨_, rfl⟩
  have HK : Hid (k = ks.length) := hk'
  obtain ⟨m, hm⟩ : ∃ m, m = rbs.length := ⟨_, rfl⟩
  rw [← hn] at hl HP
  rw [← hk'] at hk HKY HKR ⊢
  rw [← hm] at hoR HP
  have hoz : (o : Int) < (m : Int) := by omega
  clear hn hk' hm hS hR hI hcR hrow hx hp1 hp hbR
  go_enter Tryz.func61, Tryz.ntmps61
  go_wp2_with fail
  go_loopw [7, 8] (fun a b wr => ∃ (j : Nat) (v : Value), j ≤ n ∧ b = .int .i64 j ∧ a = v ∧ Hid (OwnRR wr w.heap.size v (scanL o ks (x.l.take j))) ∧ Hid (Below w.heap.size w wr))
    (fun _ b _ => n - (intOf b).toNat)
  case atStart => exact ⟨0, _, Nat.zero_le _, rfl, rfl, by rw [List.take_zero]; exact OwnRR.nil _ _, Below.refl _ _⟩
  case round =>
    obtain ⟨j, v, hj, rfl, hv, HO, HB⟩ := hrel
    obtain ⟨a', c', rfl, _⟩ := HO.out.form
    subst hv
    obtain ⟨wo, hwo⟩ : ∃ wo, wo = wr := ⟨_, rfl⟩
    subst hwo
    obtain ⟨c0, c1⟩ := HP.out _ HB.out
    by_cases hlt : j < n
    · obtain ⟨y, hy⟩ : ∃ y, x.l[j]? = some y := ⟨_, List.getElem?_eq_getElem (by rw [← HN.out]; exact hlt)⟩
      have HY : Hid (x.l[j]? = some y) := hy
      obtain ⟨b, off, ea, e0, e1, e2⟩ := HRW.out _ HB.out j y hy
      rw [ea] at c1
      have hjz : (j : Int) < (n : Int) := by omega
      clear hy
      go_wp2_with fail
      obtain ⟨wi, hwi⟩ : ∃ wi, wi = wo.alloc (.cells #[.int .i64 y.1, .int .i64 y.2.1, .int .i64 y.2.2] 99) := ⟨_, rfl⟩
      have hbx : wi.cell? ⟨wo.heap.size, 0, none⟩ = some (.int .i64 y.1) ∧ wi.cell? ⟨wo.heap.size, 1, none⟩ = some (.int .i64 y.2.1) ∧ wi.cell? ⟨wo.heap.size, 2, none⟩ = some (.int .i64 y.2.2) ∧ wo.heap.size < wi.heap.size := by
        rw [hwi]
        refine ⟨?_, ?_, ?_, by simp⟩ <;> simp [go_sem]
      have HBX : Hid (wi.cell? ⟨wo.heap.size, 0, none⟩ = some (.int .i64 y.1) ∧ wi.cell? ⟨wo.heap.size, 1, none⟩ = some (.int .i64 y.2.1) ∧ wi.cell? ⟨wo.heap.size, 2, none⟩ = some (.int .i64 y.2.2) ∧ wo.heap.size < wi.heap.size) := hbx
      have HBI : Hid (Below wo.heap.size wo wi) := by rw [hwi]; exact bl_a _
      have HBW : Hid (Below w.heap.size w wi) := bl_trans HB.out HBI.out
      rw [← hwi]
      clear hbx hwi e0 e1 e2 c0 c1 ea
      go_loopw [10, 11] (fun a b wr => ∃ (t : Nat) (q : Bool), t ≤ k ∧ b = .int .i64 t ∧ a = .bool q ∧ Hid (q = true ↔ ∀ i, i < t → rk o i y = ks[i]?.getD 0) ∧ Hid (Below wi.heap.size wi wr))
        (fun _ b _ => k - (intOf b).toNat)
      case atStart => exact ⟨0, true, Nat.zero_le _, rfl, rfl, (show (true = true ↔ _) from ⟨fun _ i hi => absurd hi (Nat.not_lt_zero _), fun _ => rfl⟩), Below.refl _ _⟩
      case round =>
        obtain ⟨t, q, ht, rfl, rfl, HQ, HW⟩ := hrel
        by_cases htk : t < k
        · have htz : (t : Int) < (k : Int) := by omega
          have ht3 : t < 3 := by omega
          obtain ⟨bk, ok, rfl, _⟩ := HKY.out _ HBW.out t htk
          have d0 := fun d os => ((bl_trans HW.out (bl_regrown (w := wr) d os)).cell (p := ⟨wo.heap.size, 0, none⟩) HBX.out.2.2.2).trans HBX.out.1
          have d1 := fun d os => ((bl_trans HW.out (bl_regrown (w := wr) d os)).cell (p := ⟨wo.heap.size, 1, none⟩) HBX.out.2.2.2).trans HBX.out.2.1
          have d2 := fun d os => ((bl_trans HW.out (bl_regrown (w := wr) d os)).cell (p := ⟨wo.heap.size, 2, none⟩) HBX.out.2.2.2).trans HBX.out.2.2.1
          have dk : ∀ d os, (Go.Sort.grow (redrawn wr d) os).cell? ⟨bk, ok + t, none⟩ = some (.int .i64 (ks[t]?.getD 0)) := fun d os => by
            obtain ⟨b', o', e, hc⟩ := HKY.out _ (bl_trans HBW.out (bl_trans HW.out (bl_regrown (w := wr) d os))) t htk
            cases e
            exact hc
          have C := fun d os => Calls.regrown_of (l3key_any y.1 y.2.1 y.2.2 o t (Go.Sort.grow (redrawn wr d) os) ho ht3)
          obtain ⟨r, hr⟩ : ∃ r, r = rk o t (y.1, y.2.1, y.2.2) := ⟨_, rfl⟩
          obtain ⟨kt, hkt⟩ : ∃ kt, kt = ks[t]?.getD 0 := ⟨_, rfl⟩
          have HRK : Hid (decide (r = kt) = true ↔ rk o t y = ks[t]?.getD 0) := by
            show (_ ↔ _)
            rw [hr, hkt]
            simp
          rw [← hr] at C
          rw [← hkt] at dk
          clear hr hkt
          cases q
          · go_wp2_with fail
            refine wp_region_held_drew (S := fun w' => Below wr.heap.size wr w') (by kernel_rfl) ?_ (fun hHeld => ?_)
            · exact Below.drew (Below.refl _ _)
            refine take_at (i := 0) 40 (v := ?v1) rfl rfl (by kernel_rfl) (by kernel_rfl) (by kernel_rfl) (fun _ _ _ h => h) (Or.inl ⟨by rfl, ?y1⟩) hHeld ?r1
            case y1 => (intro w' hSw; skip; go_simp; (try with_reducible rfl))
            try simp only [Act.put, List.setIfInBounds_toArray, List.set_cons_zero, List.set_cons_succ]
            refine take_at (i := 1) 41 (v := ?v2) rfl rfl (by kernel_rfl) (by kernel_rfl) (by kernel_rfl) (fun _ _ _ h => h) (Or.inl ⟨by rfl, ?y2⟩) hHeld ?r2
            case y2 => (intro w' hSw; skip; go_simp; (try with_reducible rfl))
            try simp only [Act.put, List.setIfInBounds_toArray, List.set_cons_zero, List.set_cons_succ]
            refine take_at (i := 2) 42 (v := undef) rfl rfl (by kernel_rfl) (by kernel_rfl) (by kernel_rfl) (fun _ _ _ h => h) (Or.inr ⟨by rfl, rfl⟩) hHeld ?_
            try simp only [Act.put, List.setIfInBounds_toArray, List.set_cons_zero, List.set_cons_succ]
            refine take_at (i := 3) 43 (v := undef) rfl rfl (by kernel_rfl) (by kernel_rfl) (by kernel_rfl) (fun _ _ _ h => h) (Or.inr ⟨by rfl, rfl⟩) hHeld ?_
            try simp only [Act.put, List.setIfInBounds_toArray, List.set_cons_zero, List.set_cons_succ]
            refine take_at (i := 4) 44 (v := undef) rfl rfl (by kernel_rfl) (by kernel_rfl) (by kernel_rfl) (fun _ _ _ h => h) (Or.inr ⟨by rfl, rfl⟩) hHeld ?_
            try simp only [Act.put, List.setIfInBounds_toArray, List.set_cons_zero, List.set_cons_succ]
            refine take_at (i := 5) 45 (v := undef) rfl rfl (by kernel_rfl) (by kernel_rfl) (by kernel_rfl) (fun _ _ _ h => h) (Or.inr ⟨by rfl, rfl⟩) hHeld ?_
            try simp only [Act.put, List.setIfInBounds_toArray, List.set_cons_zero, List.set_cons_succ]
            refine take_at (i := 6) 46 (v := undef) rfl rfl (by kernel_rfl) (by kernel_rfl) (by kernel_rfl) (fun _ _ _ h => h) (Or.inr ⟨by rfl, rfl⟩) hHeld ?_
            try simp only [Act.put, List.setIfInBounds_toArray, List.set_cons_zero, List.set_cons_succ]
            refine take_at (i := 7) 47 (v := undef) rfl rfl (by kernel_rfl) (by kernel_rfl) (by kernel_rfl) (fun _ _ _ h => h) (Or.inr ⟨by rfl, rfl⟩) hHeld ?_
            try simp only [Act.put, List.setIfInBounds_toArray, List.set_cons_zero, List.set_cons_succ]
            refine take_at (i := 8) 48 (v := undef) rfl rfl (by kernel_rfl) (by kernel_rfl) (by kernel_rfl) (fun _ _ _ h => h) (Or.inr ⟨by rfl, rfl⟩) hHeld ?_
            try simp only [Act.put, List.setIfInBounds_toArray, List.set_cons_zero, List.set_cons_succ]
            refine take_at (i := 9) 49 (v := undef) rfl rfl (by kernel_rfl) (by kernel_rfl) (by kernel_rfl) (fun _ _ _ h => h) (Or.inr ⟨by rfl, rfl⟩) hHeld ?_
            try simp only [Act.put, List.setIfInBounds_toArray, List.set_cons_zero, List.set_cons_succ]
            refine take_at (i := 10) 50 (v := undef) rfl rfl (by kernel_rfl) (by kernel_rfl) (by kernel_rfl) (fun _ _ _ h => h) (Or.inr ⟨by rfl, rfl⟩) hHeld ?_
            try simp only [Act.put, List.setIfInBounds_toArray, List.set_cons_zero, List.set_cons_succ]
            refine take_at (i := 11) 51 (v := ?v3) rfl rfl (by kernel_rfl) (by kernel_rfl) (by kernel_rfl) (fun _ _ _ h => h) (Or.inl ⟨by rfl, ?y3⟩) hHeld ?r3
            case y3 => (intro w' hSw; skip; go_simp; (try with_reducible rfl))
            try simp only [Act.put, List.setIfInBounds_toArray, List.set_cons_zero, List.set_cons_succ]
            refine take_at (i := 12) 10 (v := ?v4) rfl rfl (by kernel_rfl) (by kernel_rfl) (by kernel_rfl) (fun _ _ _ h => h) (Or.inl ⟨by rfl, ?y4⟩) hHeld ?r4
            case y4 => (intro w' hSw; skip; go_simp; (try with_reducible rfl))
            try simp only [Act.put, List.setIfInBounds_toArray, List.set_cons_zero, List.set_cons_succ]
            refine wpAnyH_done (by kernel_rfl) ?_ _
            have HW2 : Hid (Below wi.heap.size wi wr.drew) := Below.drew HW.out
            clear hHeld
            generalize wr.drew = wz at *
            go_wp2_with fail
            go_roundw
            case rel =>
              refine ⟨t + 1, false, by omega, by go_num, rfl, (show (false = true ↔ _) from ⟨fun h => (by cases h), fun h => ?_⟩), HW2⟩
              exact HQ.out.2 (fun i hi => h i (by omega))
            case measure => simp [intOf]; omega
          · go_wp2_with fail
            refine wp_region_quiet_below (by kernel_rfl) (by kernel_rfl) ?_
            quiet_step (fail)
            quiet_step (fail)
            quiet_step (fail)
            quiet_step (fail)
            quiet_step (fail)
            quiet_step (exact C _ _)
            quiet_step (fail)
            quiet_step (fail)
            quiet_step (fail)
            quiet_step (fail)
            quiet_step (fail)
            quiet_step (fail)
            quiet_step (fail)
            refine wpQuiet_nil ?_
            intro _ hw'
            obtain ⟨⟨dq, osq⟩, hw''⟩ := hw'
            subst hw''
            go_wp2_with fail
            go_roundw
            case rel =>
              refine ⟨t + 1, decide (r = kt), by omega, by go_num, by first | rfl | simp, (show (decide (r = kt) = true ↔ _) from ⟨fun h i hi => ?_, fun h => HRK.out.2 (h t (by omega))⟩), bl_trans HW.out (bl_regrown (w := wr) dq osq)⟩
              by_cases e : i = t
              · subst e
                exact HRK.out.1 h
              · exact HQ.out.1 (by simp) i (by omega)
            case measure => simp [intOf]; omega
        · obtain rfl : t = k := by omega
          have HO2 : Hid (OwnRR wr w.heap.size (.slice a' (scanL o ks (x.l.take j)).length c') (scanL o ks (x.l.take j))) := HO.out.below (bl_trans HBI.out HW.out)
          have HB2 : Hid (Below w.heap.size w wr) := bl_trans HBW.out HW.out
          have hws : w.heap.size ≤ wr.heap.size := HB2.out.size
          have HLT : Hid ((scanL o ks (x.l.take j)).length ≤ 1048576) := by
            show _ ≤ _
            have h1 : (scanL o ks (x.l.take j)).length ≤ (x.l.take j).length := List.length_filter_le _ _
            rw [List.length_take] at h1
            omega
          have g0 := (HW.out.cell (p := ⟨wo.heap.size, 0, none⟩) HBX.out.2.2.2).trans HBX.out.1
          have g1 := (HW.out.cell (p := ⟨wo.heap.size, 1, none⟩) HBX.out.2.2.2).trans HBX.out.2.1
          have g2 := (HW.out.cell (p := ⟨wo.heap.size, 2, none⟩) HBX.out.2.2.2).trans HBX.out.2.2.1
          have HST : Hid (scanL o ks (x.l.take (j + 1)) = scanL o ks (x.l.take j) ++ if kcmp o ks y = 0 then [y] else []) := scanL_step HY.out
          cases q
          · have HNO : Hid (¬ kcmp o ks y = 0) := fun e => by
              have := HQ.out.2 ((HKR.out y).1 e)
              cases this
            go_wp2_with fail
            go_roundw
            case rel =>
              refine ⟨j + 1, _, by omega, by go_num, rfl, ?_, HB2⟩
              show OwnRR _ _ _ _
              rw [HST.out, if_neg HNO.out, List.append_nil]
              exact HO2.out
            case measure => simp [intOf]; omega
          · have HYE : Hid (kcmp o ks y = 0) := (HKR.out y).2 (HQ.out.1 (by simp))
            have HOA : Hid (OwnRR (wr.alloc (.cells #[.int .i64 y.1, .int .i64 y.2.1, .int .i64 y.2.2] 99)) w.heap.size (.slice a' (scanL o ks (x.l.take j)).length c') (scanL o ks (x.l.take j))) := HO2.out.below (bl_a _)
            have HNA : Hid (∀ j u, (encR y)[j]? = some u → (wr.alloc (.cells #[.int .i64 y.1, .int .i64 y.2.1, .int .i64 y.2.2] 99)).cell? ((⟨wr.heap.size, 0, none⟩ : Addr).add j) = some u) := fun j u hu => World.news_of_block (Go.heap_alloc_new _ _) j u (by simpa [encR] using hu)
            have hsA : w.heap.size ≤ (wr.alloc (.cells #[.int .i64 y.1, .int .i64 y.2.1, .int .i64 y.2.2] 99)).heap.size := by simp; omega
            have hLT := HLT.out
            go_wp2_with (refine appR rfl (.tmp 53) (.tmp 55) rfl w.heap.size (.slice a' (scanL o ks (x.l.take j)).length c') (scanL o ks (x.l.take j)) rfl HOA ⟨wr.heap.size, 0, none⟩ 1 y rfl HNA ((scanL o ks (x.l.take j)).length + 1) rfl (by omega) hsA ?_; intro g3 c3 w3 HR3 _ _ HB3)
            go_roundw
            case rel =>
              refine ⟨j + 1, _, by omega, by go_num, rfl, ?_, (bl_alloc HB2.out _).trans HB3.out⟩
              show OwnRR _ _ _ _
              rw [HST.out, if_pos HYE.out]
              exact HR3.out
            case measure => simp [intOf]; omega
    · obtain rfl : j = n := by omega
      go_wp2_with fail
      go_ret
      have e : scanL o ks (x.l.take j) = scanL o ks x.l := by rw [HN.out, List.take_length]
      have h := HO.out
      rw [e] at h
      exact ⟨a', c', by rw [← e]; rfl, h, HB.out⟩
end Go.Proofs.YtdcaicoomldmgaaGreatDoor

/- DvStxD -/
namespace Go.Proofs.YtdcaicoomldmgaaGreatDoor
open Go.RowKit Go.Deep
set_option maxRecDepth 100000

/-- There lies a number. -/
def I64 (w : World) (b j : Nat) : Prop := ∃ v, w.cell? ⟨b, j, none⟩ = some (.int .i64 v)
/-- Bytes, numbers, lists stay such, and what may be written may be. -/
structure K3 (w w' : World) : Prop where
  u : ∀ b j, U8 w b j → U8 w' b j
  i : ∀ b j, I64 w b j → I64 w' b j
  s : ∀ b j a l c, w.cell? ⟨b, j, none⟩ = some (.slice a l c) → w'.cell? ⟨b, j, none⟩ = some (.slice a l c)
  f : ∀ p, w'.frozen? p = w.frozen? p
theorem K3.refl (w : World) : K3 w w := ⟨fun _ _ h => h, fun _ _ h => h, fun _ _ _ _ _ h => h, fun _ => rfl⟩
theorem K3.trans {w w' w'' : World} (h : K3 w w') (k : K3 w' w'') : K3 w w'' := ⟨fun b j q => k.u b j (h.u b j q), fun b j q => k.i b j (h.i b j q), fun b j a l c q => k.s b j a l c (h.s b j a l c q), fun p => (k.f p).trans (h.f p)⟩
theorem K3.set {w : World} {g i : Nat} {n : Int} (h : I64 w g i) : K3 w (w.setCell ⟨g, i, none⟩ (.int .i64 n)) := by
  obtain ⟨v, hv⟩ := h
  refine ⟨fun b j hu => ?_, fun b j hu => ?_, fun b j a l c hu => ?_, fun p => World.frozen?_setCell _ _ _ _⟩
  · by_cases e : b = g ∧ j = i
    · obtain ⟨rfl, rfl⟩ := e
      obtain ⟨u, hu⟩ := hu
      rw [hv] at hu
      cases hu
    · unfold U8
      rw [cell_set_other (by omega)]
      exact hu
  · by_cases e : b = g ∧ j = i
    · obtain ⟨rfl, rfl⟩ := e
      exact ⟨_, set_same hv⟩
    · unfold I64
      rw [cell_set_other (by omega)]
      exact hu
  · by_cases e : b = g ∧ j = i
    · obtain ⟨rfl, rfl⟩ := e
      rw [hv] at hu
      cases hu
    · rw [cell_set_other (by omega)]
      exact hu
theorem K3.setb {w : World} {g i : Nat} {n : Int} (h : U8 w g i) : K3 w (w.setCell ⟨g, i, none⟩ (.int .u8 n)) := by
  obtain ⟨v, hv⟩ := h
  refine ⟨fun b j hu => ?_, fun b j hu => ?_, fun b j a l c hu => ?_, fun p => World.frozen?_setCell _ _ _ _⟩
  · by_cases e : b = g ∧ j = i
    · obtain ⟨rfl, rfl⟩ := e
      exact ⟨_, set_same hv⟩
    · unfold U8
      rw [cell_set_other (by omega)]
      exact hu
  · by_cases e : b = g ∧ j = i
    · obtain ⟨rfl, rfl⟩ := e
      obtain ⟨u, hu⟩ := hu
      rw [hv] at hu
      cases hu
    · unfold I64
      rw [cell_set_other (by omega)]
      exact hu
  · by_cases e : b = g ∧ j = i
    · obtain ⟨rfl, rfl⟩ := e
      rw [hv] at hu
      cases hu
    · rw [cell_set_other (by omega)]
      exact hu
theorem Mid.trans' {B C : Nat} {w w1 w2 : World} (h : Mid B C w w1) (k : Mid B C w1 w2) : Mid B C w w2 :=
  ⟨k.os.trans h.os, k.tape.trans h.tape, k.output.trans h.output, k.size.trans h.size, fun b hb => (k.block b hb).trans (h.block b hb)⟩

/-- A text that may be marked, in the blocks from B on and below C. -/
def TxK (B C : Nat) (w : World) (a : Option Addr) (len : Nat) : Prop := len ≤ 1048576 ∧ (len = 0 ∨ ∃ g, a = some ⟨g, 0, none⟩ ∧ B ≤ g ∧ g < C ∧ ∀ i, i < len → U8 w g i ∧ w.frozen? ⟨g, i, none⟩ = false)
theorem TxK.k3 {B C : Nat} {w w' : World} {a : Option Addr} {len : Nat} (h : TxK B C w a len) (k : K3 w w') : TxK B C w' a len := by
  refine ⟨h.1, ?_⟩
  rcases h.2 with h | ⟨g, ha, hB, hC, hx⟩
  · exact .inl h
  · exact .inr ⟨g, ha, hB, hC, fun i hi => ⟨k.u _ _ (hx i hi).1, (k.f _).trans (hx i hi).2⟩⟩
theorem markText_k (B C : Nat) (a : Option Addr) (len cap : Nat) (k : Int) (w : World) (h : TxK B C w a len) (hk : 0 ≤ k) (hk2 : k ≤ 1152921504606846976) :
    Calls Tryz.prog 89 #[.slice a len cap, .int .i64 k] w fun e w' => e = .returned (.int .i64 (k + len)) ∧ K3 w w' ∧ Mid B C w w' := by
  obtain ⟨hlen, h⟩ := h
  by_cases h0 : len = 0
  · subst h0
    refine (markW_zero a cap k w).mono ?_
    rintro e w' ⟨rfl, rfl⟩
    exact ⟨by simp, K3.refl _, Mid.refl _ _ _⟩
  rcases h with h | ⟨g, rfl, hB, hC, hx⟩
  · exact absurd h h0
  have HX : Hid (∀ i, i < len → U8 w g i ∧ w.frozen? ⟨g, i, none⟩ = false) := hx
  clear hx
  go_enter Tryz.func89, Tryz.ntmps89
  go_wp2_with fail
  go_loopw [1, 5] (fun a b wr => ∃ j : Nat, j ≤ len ∧ a = .int .i64 (k + j) ∧ b = .int .i64 j ∧ Hid (Mid B C w wr) ∧ Hid (K3 w wr))
    (fun _ b _ => len - (intOf b).toNat)
  case atStart => exact ⟨0, Nat.zero_le _, by simp, rfl, Mid.refl _ _ _, K3.refl _⟩
  case round =>
    obtain ⟨j, hj, rfl, rfl, HB, HU⟩ := hrel
    by_cases hlt : j < len
    · have hu := HU.out.u g j (HX.out j hlt).1
      have HV : Hid (U8 wr g j) := hu
      obtain ⟨v, hv⟩ := hu
      have hfv := (HU.out.f ⟨g, j, none⟩).trans (HX.out j hlt).2
      go_wp2
      go_roundw
      case rel => exact ⟨j + 1, by omega, by go_num, by go_num, HB.out.set hB hC, HU.out.trans (K3.setb HV.out)⟩
      case measure => simp [intOf]; omega
    · obtain rfl : j = len := by omega
      go_wp2
      go_ret
      exact ⟨rfl, HU.out, HB.out⟩

/-- A row of terms that may be marked. -/
def TsK (B C : Nat) (w : World) (a : Option Addr) (n : Nat) (X : Nat → Option Addr) (L Cp : Nat → Nat) : Prop := n = 0 ∨ ∃ g, a = some ⟨g, 0, none⟩ ∧ B ≤ g ∧ g < C ∧
  ∀ i, i < n → (I64 w g (i * 4) ∧ w.cell? ⟨g, i * 4 + 1, none⟩ = some (.slice (X i) (L i) (Cp i)) ∧ I64 w g (i * 4 + 2) ∧ I64 w g (i * 4 + 3)) ∧ (w.frozen? ⟨g, i * 4, none⟩ = false ∧ w.frozen? ⟨g, i * 4 + 2, none⟩ = false ∧ w.frozen? ⟨g, i * 4 + 3, none⟩ = false) ∧ TxK B C w (X i) (L i)
theorem TsK.k3 {B C : Nat} {w w' : World} {a : Option Addr} {n : Nat} {X : Nat → Option Addr} {L Cp : Nat → Nat} (h : TsK B C w a n X L Cp) (k : K3 w w') : TsK B C w' a n X L Cp := by
  rcases h with h | ⟨g, ha, hB, hC, hx⟩
  · exact .inl h
  · refine .inr ⟨g, ha, hB, hC, fun i hi => ?_⟩
    obtain ⟨⟨h1, h2, h3, h4⟩, ⟨f1, f2, f3⟩, ht⟩ := hx i hi
    exact ⟨⟨k.i _ _ h1, k.s _ _ _ _ _ h2, k.i _ _ h3, k.i _ _ h4⟩, ⟨(k.f _).trans f1, (k.f _).trans f2, (k.f _).trans f3⟩, ht.k3 k⟩

set_option maxHeartbeats 2000000 in
theorem markTermS_k (B C : Nat) (a : Option Addr) (n cap : Nat) (X : Nat → Option Addr) (L Cp : Nat → Nat) (k : Int) (w : World) (hn : n ≤ 1048576) (hk : 0 ≤ k) (hk2 : k ≤ 4194304) (hM : TsK B C w a n X L Cp) :
    Calls Tryz.prog 46 #[.slice a n cap, .int .i64 k] w fun e w' => (∃ q : Int, e = .returned (.int .i64 q) ∧ 0 ≤ q ∧ q ≤ 1099520000000) ∧ K3 w w' ∧ Mid B C w w' := by
  by_cases h0 : n = 0
  · subst h0
    refine (markTermS_zero a cap k w).mono ?_
    rintro e w' ⟨rfl, rfl⟩
    exact ⟨⟨k, rfl, hk, by omega⟩, K3.refl _, Mid.refl _ _ _⟩
  have HT : Hid (TsK B C w a n X L Cp) := hM
  rcases hM with h | ⟨g, rfl, hB, hC, _⟩
  · exact absurd h h0
  have HX : Hid (∀ wr, K3 w wr → ∀ i, i < n → (I64 wr g (i * 4) ∧ wr.cell? ⟨g, i * 4 + 1, none⟩ = some (.slice (X i) (L i) (Cp i)) ∧ I64 wr g (i * 4 + 2) ∧ I64 wr g (i * 4 + 3)) ∧ (wr.frozen? ⟨g, i * 4, none⟩ = false ∧ wr.frozen? ⟨g, i * 4 + 2, none⟩ = false ∧ wr.frozen? ⟨g, i * 4 + 3, none⟩ = false) ∧ TxK B C wr (X i) (L i)) := fun wr hk i hi => by
    rcases HT.out.k3 hk with h | ⟨g', e, _, _, hx⟩
    · exact absurd h h0
    · cases e
      exact hx i hi
  clear HT
  go_enter Tryz.func46, Tryz.ntmps46
  go_wp2_with fail
  go_loopw [1, 5] (fun a b wr => ∃ (j : Nat) (m : Int), j ≤ n ∧ b = .int .i64 j ∧ a = .int .i64 m ∧ 0 ≤ m ∧ m ≤ 4194304 + j * 1048579 ∧ Hid (K3 w wr) ∧ Hid (Mid B C w wr))
    (fun _ b _ => n - (intOf b).toNat)
  case atStart => exact ⟨0, k, Nat.zero_le _, rfl, rfl, hk, by omega, K3.refl _, Mid.refl _ _ _⟩
  case round =>
    obtain ⟨j, m, hj, rfl, rfl, hm0, hm1, HK, HD⟩ := hrel
    by_cases hlt : j < n
    · obtain ⟨⟨h1, h2, _⟩, ⟨f1, _⟩, ht⟩ := HX.out _ HK.out j hlt
      have hlen := ht.1
      have HK1 : Hid (K3 w (wr.setCell ⟨g, j * 4, none⟩ (.int .i64 m))) := HK.out.trans (K3.set h1)
      have HD1 : Hid (Mid B C w (wr.setCell ⟨g, j * 4, none⟩ (.int .i64 m))) := HD.out.set hB hC
      obtain ⟨v1, h1⟩ := h1
      clear ht
      have hT := (HX.out _ HK1.out j hlt).2.2
      go_wp2_with fail
      refine (markText_k B C (X j) (L j) (Cp j) (m + 1) _ hT (by omega) (by omega)).mono ?_
      rintro e w2 ⟨rfl, hk2', hd2⟩
      have HK2 : Hid (K3 w w2) := HK1.out.trans hk2'
      have HD2 : Hid (Mid B C w w2) := HD1.out.trans' hd2
      clear h1 h2 f1 hT HK1 HD1 hk2' hd2 HK HD
      obtain ⟨⟨_, _, h3, h4⟩, ⟨_, f3, f4⟩, _⟩ := HX.out _ HK2.out j hlt
      have HK3 := fun m' => (show Hid (K3 w (w2.setCell ⟨g, j * 4 + 2, none⟩ (.int .i64 m'))) from HK2.out.trans (K3.set h3))
      have HK4 := fun m' m'' => (show Hid (K3 w ((w2.setCell ⟨g, j * 4 + 2, none⟩ (.int .i64 m')).setCell ⟨g, j * 4 + 3, none⟩ (.int .i64 m''))) from (HK3 m').out.trans (K3.set (HX.out _ (HK3 m').out j hlt).1.2.2.2))
      obtain ⟨v3, h3⟩ := h3
      obtain ⟨v4, h4⟩ := h4
      go_wp2_with fail
      go_roundw
      case rel => exact ⟨j + 1, _, by omega, by go_num, rfl, by omega, by omega, HK4 _ _, (HD2.out.set hB hC).set hB hC⟩
      case measure => simp [intOf]; omega
    · obtain rfl : j = n := by omega
      go_wp2_with fail
      go_ret
      exact ⟨⟨m, rfl, hm0, by omega⟩, HK.out, HD.out⟩

/-- Rows of numbers that may be marked. -/
def RsK (B C : Nat) (w : World) (a : Option Addr) (n : Nat) : Prop := n ≤ 1048576 ∧ (n = 0 ∨ ∃ g, a = some ⟨g, 0, none⟩ ∧ B ≤ g ∧ g < C ∧ ∀ j, j < n * 3 → I64 w g j ∧ w.frozen? ⟨g, j, none⟩ = false)
theorem RsK.k3 {B C : Nat} {w w' : World} {a : Option Addr} {n : Nat} (h : RsK B C w a n) (k : K3 w w') : RsK B C w' a n := by
  refine ⟨h.1, ?_⟩
  rcases h.2 with h | ⟨g, ha, hB, hC, hx⟩
  · exact .inl h
  · exact .inr ⟨g, ha, hB, hC, fun i hi => ⟨k.i _ _ (hx i hi).1, (k.f _).trans (hx i hi).2⟩⟩
set_option maxHeartbeats 1000000 in
theorem markRowS_k (B C : Nat) (a : Option Addr) (n cap : Nat) (k : Int) (w : World) (h : RsK B C w a n) (hk : 0 ≤ k) (hk2 : k ≤ 1152921504606846976) :
    Calls Tryz.prog 29 #[.slice a n cap, .int .i64 k] w fun e w' => e = .returned (.int .i64 (k + 3 * (n : Int))) ∧ K3 w w' ∧ Mid B C w w' := by
  obtain ⟨hl, h⟩ := h
  by_cases h0 : n = 0
  · subst h0
    refine (markRowS_zero a cap k w).mono ?_
    rintro e w' ⟨rfl, rfl⟩
    exact ⟨by simp, K3.refl _, Mid.refl _ _ _⟩
  rcases h with h | ⟨g, rfl, hB, hC, hx⟩
  · exact absurd h h0
  have HX : Hid (∀ j, j < n * 3 → I64 w g j ∧ w.frozen? ⟨g, j, none⟩ = false) := hx
  clear hx
  go_enter Tryz.func29, Tryz.ntmps29
  go_wp2_with fail
  go_loopw [1, 5] (fun a b wr => ∃ j : Nat, j ≤ n ∧ b = .int .i64 j ∧ a = .int .i64 (k + 3 * j) ∧ Hid (K3 w wr) ∧ Hid (Mid B C w wr))
    (fun _ b _ => n - (intOf b).toNat)
  case atStart => exact ⟨0, Nat.zero_le _, rfl, by simp, K3.refl _, Mid.refl _ _ _⟩
  case round =>
    obtain ⟨j, hj, rfl, rfl, HK, HD⟩ := hrel
    by_cases hlt : j < n
    · have i0 := HK.out.i g (j * 3) (HX.out (j * 3) (by omega)).1
      have i1 := HK.out.i g (j * 3 + 1) (HX.out (j * 3 + 1) (by omega)).1
      have i2 := HK.out.i g (j * 3 + 2) (HX.out (j * 3 + 2) (by omega)).1
      have f0 := (HK.out.f ⟨g, j * 3, none⟩).trans (HX.out (j * 3) (by omega)).2
      have f1 := (HK.out.f ⟨g, j * 3 + 1, none⟩).trans (HX.out (j * 3 + 1) (by omega)).2
      have f2 := (HK.out.f ⟨g, j * 3 + 2, none⟩).trans (HX.out (j * 3 + 2) (by omega)).2
      have HK2 := fun a b c => (show Hid (K3 w (((wr.setCell ⟨g, j * 3, none⟩ (.int .i64 a)).setCell ⟨g, j * 3 + 1, none⟩ (.int .i64 b)).setCell ⟨g, j * 3 + 2, none⟩ (.int .i64 c))) from
        ((HK.out.trans (K3.set i0)).trans (K3.set ((K3.set i0).i _ _ i1))).trans (K3.set ((K3.set ((K3.set i0).i _ _ i1)).i _ _ ((K3.set i0).i _ _ i2))))
      obtain ⟨v0, i0⟩ := i0
      obtain ⟨v1, i1⟩ := i1
      obtain ⟨v2, i2⟩ := i2
      go_wp2_with fail
      go_roundw
      case rel => exact ⟨j + 1, by omega, by go_num, by go_num, HK2 _ _ _, ((HD.out.set hB hC).set hB hC).set hB hC⟩
      case measure => simp [intOf]; omega
    · obtain rfl : j = n := by omega
      go_wp2_with fail
      go_ret
      exact ⟨rfl, HK.out, HD.out⟩

/-- A row of rows that may be marked. -/
def SsK (B C : Nat) (w : World) (a : Option Addr) (n : Nat) (X : Nat → Option Addr) (L Cp : Nat → Nat) : Prop := n = 0 ∨ ∃ g, a = some ⟨g, 0, none⟩ ∧ g < C ∧ ∀ i, i < n → w.cell? ⟨g, i, none⟩ = some (.slice (X i) (L i) (Cp i)) ∧ RsK B C w (X i) (L i)
theorem SsK.k3 {B C : Nat} {w w' : World} {a : Option Addr} {n : Nat} {X : Nat → Option Addr} {L Cp : Nat → Nat} (h : SsK B C w a n X L Cp) (k : K3 w w') : SsK B C w' a n X L Cp := by
  rcases h with h | ⟨g, ha, hC, hx⟩
  · exact .inl h
  · exact .inr ⟨g, ha, hC, fun i hi => ⟨k.s _ _ _ _ _ (hx i hi).1, (hx i hi).2.k3 k⟩⟩
set_option maxHeartbeats 1000000 in
theorem markRowSS_k (B C : Nat) (a : Option Addr) (n cap : Nat) (X : Nat → Option Addr) (L Cp : Nat → Nat) (k : Int) (w : World) (hn : n ≤ 1048576) (hk : 0 ≤ k) (hk2 : k ≤ 1099520000000) (hM : SsK B C w a n X L Cp) :
    Calls Tryz.prog 47 #[.slice a n cap, .int .i64 k] w fun e w' => (∃ q : Int, e = .returned (.int .i64 q) ∧ 0 ≤ q ∧ q ≤ 4400000000000) ∧ K3 w w' ∧ Mid B C w w' := by
  by_cases h0 : n = 0
  · subst h0
    refine (markRowSS_zero a cap k w).mono ?_
    rintro e w' ⟨rfl, rfl⟩
    exact ⟨⟨k, rfl, hk, by omega⟩, K3.refl _, Mid.refl _ _ _⟩
  have HT : Hid (SsK B C w a n X L Cp) := hM
  rcases hM with h | ⟨g, rfl, _, _⟩
  · exact absurd h h0
  have HX : Hid (∀ wr, K3 w wr → ∀ i, i < n → wr.cell? ⟨g, i, none⟩ = some (.slice (X i) (L i) (Cp i)) ∧ RsK B C wr (X i) (L i)) := fun wr hk i hi => by
    rcases HT.out.k3 hk with h | ⟨g', e, _, hx⟩
    · exact absurd h h0
    · cases e
      exact hx i hi
  clear HT
  go_enter Tryz.func47, Tryz.ntmps47
  go_wp2_with fail
  go_loopw [1, 5] (fun a b wr => ∃ (j : Nat) (m : Int), j ≤ n ∧ b = .int .i64 j ∧ a = .int .i64 m ∧ 0 ≤ m ∧ m ≤ 1099520000000 + j * 3145728 ∧ Hid (K3 w wr) ∧ Hid (Mid B C w wr))
    (fun _ b _ => n - (intOf b).toNat)
  case atStart => exact ⟨0, k, Nat.zero_le _, rfl, rfl, hk, by omega, K3.refl _, Mid.refl _ _ _⟩
  case round =>
    obtain ⟨j, m, hj, rfl, rfl, hm0, hm1, HK, HD⟩ := hrel
    by_cases hlt : j < n
    · obtain ⟨e1, hr⟩ := HX.out _ HK.out j hlt
      have hlen := hr.1
      go_wp2_with fail
      refine (markRowS_k B C (X j) (L j) (Cp j) m _ hr (by omega) (by omega)).mono ?_
      rintro e w2 ⟨rfl, hk2', hd2⟩
      have HK2 : Hid (K3 w w2) := HK.out.trans hk2'
      have HD2 : Hid (Mid B C w w2) := HD.out.trans' hd2
      clear e1 hr hk2' hd2 HK HD
      go_wp2_with fail
      go_roundw
      case rel => exact ⟨j + 1, _, by omega, by go_num, rfl, by omega, by omega, HK2, HD2⟩
      case measure => simp [intOf]; omega
    · obtain rfl : j = n := by omega
      go_wp2_with fail
      go_ret
      exact ⟨⟨m, rfl, hm0, by omega⟩, HK.out, HD.out⟩

set_option maxHeartbeats 1000000 in
theorem markStore_k (B C : Nat) (aT aR : Option Addr) (n m capT capR : Nat) (X Y : Nat → Option Addr) (L Cp L' Cp' : Nat → Nat) (w : World) (hn : n ≤ 1048576) (hm : m ≤ 1048576) (hT : ∀ o, TsK B C (w.alloc o) aT n X L Cp) (hR : ∀ o, SsK B C (w.alloc o) aR m Y L' Cp') :
    Calls Tryz.prog 14 #[.agg #[.slice aT n capT, .slice aR m capR], .int .i64 1] w fun e w' => ∃ (q : Int) (o : Obj), e = .returned (.int .i64 q) ∧ 0 ≤ q ∧ q ≤ 4400000000000 ∧ K3 (w.alloc o) w' ∧ Mid B C (w.alloc o) w' := by
  have HT : Hid (∀ o, TsK B C (w.alloc o) aT n X L Cp) := hT
  have HR : Hid (∀ o, SsK B C (w.alloc o) aR m Y L' Cp') := hR
  clear hT hR
  go_enter Tryz.func14, Tryz.ntmps14
  go_wp2_with fail
  refine (markTermS_k B C aT n capT X L Cp 1 _ hn (by omega) (by omega) (HT.out _)).mono ?_
  rintro e w1 ⟨⟨q, rfl, hq0, hq1⟩, hk1, hd1⟩
  have HK1 : Hid (K3 (w.alloc (.cells #[.slice aT n capT, .slice aR m capR] 29)) w1) := hk1
  have HD1 : Hid (Mid B C (w.alloc (.cells #[.slice aT n capT, .slice aR m capR] 29)) w1) := hd1
  have c1 : w1.cell? ⟨w.heap.size, 1, none⟩ = some (.slice aR m capR) := hk1.s _ _ _ _ _ (by simp [go_sem])
  have c0 : w.heap.size < w1.heap.size := by rw [hd1.size]; simp
  have hS := (HR.out (.cells #[.slice aT n capT, .slice aR m capR] 29)).k3 hk1
  clear hk1 hd1
  go_wp2_with fail
  refine (markRowSS_k B C aR m capR Y L' Cp' q _ hm hq0 hq1 hS).mono ?_
  rintro e w2 ⟨⟨q', rfl, hq0', hq1'⟩, hk2, hd2⟩
  have HK2 : Hid (K3 w1 w2) := hk2
  have HD2 : Hid (Mid B C w1 w2) := hd2
  clear hk2 hd2 hS
  go_wp2_with fail
  go_ret
  exact ⟨q', _, rfl, hq0', hq1', HK1.out.trans HK2.out, HD1.out.trans' HD2.out⟩

/-- Numbers that may be marked. -/
def IsK (B C : Nat) (w : World) (a : Option Addr) (n : Nat) : Prop := n = 0 ∨ ∃ g, a = some ⟨g, 0, none⟩ ∧ B ≤ g ∧ g < C ∧ ∀ j, j < n → I64 w g j ∧ w.frozen? ⟨g, j, none⟩ = false
theorem IsK.k3 {B C : Nat} {w w' : World} {a : Option Addr} {n : Nat} (h : IsK B C w a n) (k : K3 w w') : IsK B C w' a n := by
  rcases h with h | ⟨g, ha, hB, hC, hx⟩
  · exact .inl h
  · exact .inr ⟨g, ha, hB, hC, fun i hi => ⟨k.i _ _ (hx i hi).1, (k.f _).trans (hx i hi).2⟩⟩
theorem markIntS_k (B C : Nat) (a : Option Addr) (n cap : Nat) (k : Int) (w : World) (hn : n ≤ 1048576) (h : IsK B C w a n) (hk : 0 ≤ k) (hk2 : k ≤ 4400000000000) :
    Calls Tryz.prog 28 #[.slice a n cap, .int .i64 k] w fun e w' => e = .returned (.int .i64 (k + n)) ∧ K3 w w' ∧ Mid B C w w' := by
  by_cases h0 : n = 0
  · subst h0
    go_enter Tryz.func28, Tryz.ntmps28
    go_wp2
    refine wp_loop_rounds 1 ?_
    rw [rounds_succ]
    go_wp2
    go_ret
    exact ⟨by simp, K3.refl _, Mid.refl _ _ _⟩
  rcases h with h | ⟨g, rfl, hB, hC, hx⟩
  · exact absurd h h0
  have HX : Hid (∀ j, j < n → I64 w g j ∧ w.frozen? ⟨g, j, none⟩ = false) := hx
  clear hx
  go_enter Tryz.func28, Tryz.ntmps28
  go_wp2_with fail
  go_loopw [1, 5] (fun a b wr => ∃ j : Nat, j ≤ n ∧ b = .int .i64 j ∧ a = .int .i64 (k + j) ∧ Hid (K3 w wr) ∧ Hid (Mid B C w wr))
    (fun _ b _ => n - (intOf b).toNat)
  case atStart => exact ⟨0, Nat.zero_le _, rfl, by simp, K3.refl _, Mid.refl _ _ _⟩
  case round =>
    obtain ⟨j, hj, rfl, rfl, HK, HD⟩ := hrel
    by_cases hlt : j < n
    · have i0 := HK.out.i g j (HX.out j hlt).1
      have f0 := (HK.out.f ⟨g, j, none⟩).trans (HX.out j hlt).2
      have HK2 := fun a => (show Hid (K3 w (wr.setCell ⟨g, j, none⟩ (.int .i64 a))) from HK.out.trans (K3.set i0))
      obtain ⟨v0, i0⟩ := i0
      go_wp2_with fail
      go_roundw
      case rel => exact ⟨j + 1, by omega, by go_num, by go_num, HK2 _, HD.out.set hB hC⟩
      case measure => simp [intOf]; omega
    · obtain rfl : j = n := by omega
      go_wp2_with fail
      go_ret
      exact ⟨rfl, HK.out, HD.out⟩

/-- What may be marked stays so where nothing below C changes; and in a wider bound. -/
theorem TxK.below {B C C' : Nat} {w w' : World} {a : Option Addr} {len : Nat} (h : TxK B C w a len) (hb : Below C w w') (hC : C ≤ C') : TxK B C' w' a len := by
  refine ⟨h.1, ?_⟩
  rcases h.2 with h | ⟨g, ha, h1, h2, hx⟩
  · exact .inl h
  · refine .inr ⟨g, ha, h1, by omega, fun i hi => ?_⟩
    unfold U8
    rw [hb.cell (p := ⟨g, i, none⟩) h2, hb.frozen (p := ⟨g, i, none⟩) h2]
    exact hx i hi
theorem TsK.below {B C C' : Nat} {w w' : World} {a : Option Addr} {n : Nat} {X : Nat → Option Addr} {L Cp : Nat → Nat} (h : TsK B C w a n X L Cp) (hb : Below C w w') (hC : C ≤ C') : TsK B C' w' a n X L Cp := by
  rcases h with h | ⟨g, ha, h1, h2, hx⟩
  · exact .inl h
  · refine .inr ⟨g, ha, h1, by omega, fun i hi => ?_⟩
    have e : ∀ j, w'.cell? ⟨g, j, none⟩ = w.cell? ⟨g, j, none⟩ := fun j => hb.cell (p := ⟨g, j, none⟩) h2
    have f : ∀ j, w'.frozen? ⟨g, j, none⟩ = w.frozen? ⟨g, j, none⟩ := fun j => hb.frozen (p := ⟨g, j, none⟩) h2
    unfold I64
    simp only [e, f]
    exact ⟨(hx i hi).1, (hx i hi).2.1, (hx i hi).2.2.below hb hC⟩
theorem RsK.below {B C C' : Nat} {w w' : World} {a : Option Addr} {n : Nat} (h : RsK B C w a n) (hb : Below C w w') (hC : C ≤ C') : RsK B C' w' a n := by
  refine ⟨h.1, ?_⟩
  rcases h.2 with h | ⟨g, ha, h1, h2, hx⟩
  · exact .inl h
  · refine .inr ⟨g, ha, h1, by omega, fun i hi => ?_⟩
    unfold I64
    rw [hb.cell (p := ⟨g, i, none⟩) h2, hb.frozen (p := ⟨g, i, none⟩) h2]
    exact hx i hi
theorem SsK.below {B C C' : Nat} {w w' : World} {a : Option Addr} {n : Nat} {X : Nat → Option Addr} {L Cp : Nat → Nat} (h : SsK B C w a n X L Cp) (hb : Below C w w') (hC : C ≤ C') : SsK B C' w' a n X L Cp := by
  rcases h with h | ⟨g, ha, h2, hx⟩
  · exact .inl h
  · exact .inr ⟨g, ha, by omega, fun i hi => ⟨(hb.cell (p := ⟨g, i, none⟩) h2).trans (hx i hi).1, (hx i hi).2.below hb hC⟩⟩
end Go.Proofs.YtdcaicoomldmgaaGreatDoor

/- DvStxE -/
namespace Go.Proofs.YtdcaicoomldmgaaGreatDoor
open Go.RowKit Go.Deep
set_option maxRecDepth 100000

theorem Tryz.info3 : (Tryz.prog.info? 3).map (fun i => (i.zero, i.size, i.bytes)) = some (some (.int .i64 0), 1, 8) := by kernel_rfl
theorem run_make_ints (n : Nat) (hn : n ≤ 1048576) (w : World) :
    (Instr.makeSlice 56 (.int .i64 (n : Int)) (.int .i64 (n : Int))).run Tryz.prog w = .ok (.slice (some ⟨w.heap.size, 0, none⟩) n n) (w.alloc (.cells (madeCells #[.int .i64 0] (n * 1)) 3)) := by
  obtain ⟨i, hi, hzz⟩ := Option.map_eq_some_iff.1 Tryz.info3
  simp only [Prod.mk.injEq] at hzz
  obtain ⟨hz, hs, hb⟩ := hzz
  have hr := run_make (P := Tryz.prog) w 56 3 i _ Tryz.underlying56 hi hz .i64 .i64 n n (by omega) (Int.le_refl _) (by rw [hb]; omega) (by omega)
  simp only [Int.toNat_natCast, hs, Value.cells] at hr
  exact hr
theorem rep_flat (n : Nat) : (List.replicate n (0 : Int)).flatMap (fun x => [Value.int .i64 x]) = List.replicate n (Value.int .i64 0) := by
  induction n with
  | zero => rfl
  | succ n ih => rw [List.replicate_succ, List.flatMap_cons, ih]; rfl
theorem made_ints (w : World) (n j : Nat) (hj : j < n) : (w.alloc (.cells (madeCells #[.int .i64 0] (n * 1)) 3)).cell? ⟨w.heap.size, j, none⟩ = some (.int .i64 0) := by
  have h := made_list (fun x : Int => [Value.int .i64 x]) 1 (fun _ => rfl) 0 #[.int .i64 0] rfl n (by omega)
  refine (World.news_of_block (w := w.alloc (.cells (madeCells #[.int .i64 0] (n * 1)) 3)) (Go.heap_alloc_new _ _) j (.int .i64 0) ?_) |> fun e => by rw [addr_add, Nat.zero_add] at e; exact e
  rw [h]
  rw [rep_flat]
  rw [List.getElem?_replicate, if_pos hj]

/-- Keys of the call's own. -/
structure KO (w : World) (g : Nat) (ks : List Int) : Prop where
  lt : g < w.heap.size
  at_ : ∀ i, i < ks.length → w.cell? ⟨g, i, none⟩ = some (.int .i64 (ks[i]?.getD 0))
  fr : ∀ i, i < ks.length → w.frozen? ⟨g, i, none⟩ = false
theorem KO.below {w w' : World} {g : Nat} {ks : List Int} (h : KO w g ks) (hb : Below w.heap.size w w') : KO w' g ks :=
  ⟨Nat.lt_of_lt_of_le h.lt hb.size, fun i hi => (hb.cell (p := ⟨g, i, none⟩) h.lt).trans (h.at_ i hi), fun i hi => (hb.frozen (p := ⟨g, i, none⟩) h.lt).trans (h.fr i hi)⟩
/-- Keys that came in. -/
def KIn (w : World) (a : Option Addr) (ks : List Int) : Prop := ks.length = 0 ∨ ∃ b off, a = some ⟨b, off, none⟩ ∧ b < w.heap.size ∧ Ints w b off ks
theorem KIn.below {w w' : World} {a : Option Addr} {ks : List Int} (h : KIn w a ks) (hb : Below w.heap.size w w') : KIn w' a ks := by
  rcases h with h | ⟨b, off, e, hl, hc⟩
  · exact .inl h
  · exact .inr ⟨b, off, e, Nat.lt_of_lt_of_le hl hb.size, fun j hj => (hb.cell (p := ⟨b, off + j, none⟩) hl).trans (hc j hj)⟩
theorem KO.kin {w : World} {g : Nat} {ks : List Int} (h : KO w g ks) : KIn w (some ⟨g, 0, none⟩) ks := .inr ⟨g, 0, rfl, h.lt, fun j hj => by rw [Nat.zero_add]; exact h.at_ j hj⟩

set_option maxHeartbeats 2000000 in
theorem toIntS_any (a : Option Addr) (cap : Nat) (ks : List Int) (w : World) (hn : ks.length ≤ 1048576) (hI : KIn w a ks) :
    Calls Tryz.prog 24 #[.slice a ks.length cap] w fun e w' => e = .returned (.slice (some ⟨w.heap.size, 0, none⟩) ks.length ks.length) ∧ KO w' w.heap.size ks ∧ Below w.heap.size w w' := by
  obtain ⟨n, hnn⟩ : ∃ n, n = ks.length := ⟨_, rfl⟩
  have HN : Hid (n = ks.length) := hnn
  rw [← hnn] at hn ⊢
  have hmk := run_make_ints n hn
  by_cases hn0 : n = 0
  · subst hn0
    have hmk0 : ∀ w, (Instr.makeSlice 56 (.int .i64 0) (.int .i64 0)).run Tryz.prog w = .ok (.slice (some ⟨w.heap.size, 0, none⟩) 0 0) (w.alloc (.cells (madeCells #[.int .i64 0] 0) 3)) := fun w => by simpa using hmk w
    clear hmk hI hnn hn
    go_enter Tryz.func24, Tryz.ntmps24
    go_wp2
    refine wp_loop_rounds 1 ?_
    rw [rounds_succ]
    go_wp2
    go_ret
    exact ⟨rfl, ⟨by simp, fun i hi => by rw [← HN.out] at hi; omega, fun i hi => by rw [← HN.out] at hi; omega⟩, bl_a _⟩
  · obtain ⟨b, off, rfl, hlt, hc⟩ := hI.resolve_left (by omega)
    have HC : Hid (Ints w b off ks) := hc
    have HMD : Hid (∀ j, j < n → (w.alloc (.cells (madeCells #[.int .i64 0] (n * 1)) 3)).cell? ⟨w.heap.size, j, none⟩ = some (.int .i64 0)) := fun j hj => made_ints w n j hj
    have HMF : Hid (∀ j, (w.alloc (.cells (madeCells #[.int .i64 0] (n * 1)) 3)).frozen? ⟨w.heap.size, j, none⟩ = false) := fun j => by simp [go_sem]
    clear hI hc hnn
    go_enter Tryz.func24, Tryz.ntmps24
    go_wp2
    go_loopw [4] (fun i wr => ∃ (k : Nat), k ≤ n ∧ i = .int .i64 k ∧ Hid (∀ j, j < k → wr.cell? ⟨w.heap.size, j, none⟩ = some (.int .i64 (ks[j]?.getD 0))) ∧ Hid (∀ j, j < n → I64 wr w.heap.size j) ∧ Hid (∀ j, j < n → wr.frozen? ⟨w.heap.size, j, none⟩ = false) ∧ Hid (w.heap.size < wr.heap.size) ∧ Hid (Below w.heap.size w wr))
      (fun i _ => n - (intOf i).toNat)
    case atStart => exact ⟨0, Nat.zero_le _, rfl, fun j hj => absurd hj (Nat.not_lt_zero _), fun j hj => ⟨_, by have := HMD.out j hj; rw [Nat.mul_one] at this; exact this⟩, fun j _ => by have := HMF.out j; rw [Nat.mul_one] at this; exact this, (show w.heap.size < _ by simp), bl_a _⟩
    case round =>
      obtain ⟨k, hk, rfl, HA, HE, HF, HL, HB⟩ := hrel
      by_cases hlk : k < n
      · have hlkz : (k : Int) < (n : Int) := by omega
        have x0 : wr.cell? ⟨b, off + k, none⟩ = some (.int .i64 (ks[k]?.getD 0)) := (HB.out.cell (p := ⟨b, off + k, none⟩) hlt).trans (HC.out k (by rw [← HN.out]; exact hlk))
        obtain ⟨v, hv⟩ := HE.out k hlk
        have f0 := HF.out k hlk
        clear hmk
        go_wp2_with fail
        go_roundw
        case rel =>
          refine ⟨k + 1, by omega, by go_num, fun j hj => ?_, fun j hj => ?_, fun j hj => by rw [World.frozen?_setCell]; exact HF.out j hj, (show w.heap.size < _ by simp; exact HL.out), HB.out.setCell (p := ⟨w.heap.size, k, none⟩) (Nat.le_refl _) _⟩
          · by_cases e : j = k
            · subst e
              exact set_same hv
            · rw [set_other (by omega)]
              exact HA.out j (by omega)
          · by_cases e : j = k
            · subst e
              exact ⟨_, set_same hv⟩
            · unfold I64
              rw [set_other (by omega)]
              exact HE.out j hj
        case measure => simp [intOf]; omega
      · obtain rfl : k = n := by omega
        have hlkz : ¬ (k : Int) < (k : Int) := by omega
        clear hmk
        go_wp2
        go_ret
        exact ⟨rfl, ⟨HL.out, fun i hi => HA.out i (by rw [HN.out]; exact hi), fun i hi => HF.out i (by rw [HN.out]; exact hi)⟩, HB.out⟩

set_option maxHeartbeats 2000000 in
theorem eqIntS_same (a a' : Option Addr) (cap cap' : Nat) (ks : List Int) (w : World) (hn : ks.length ≤ 1048576) (h : KIn w a ks) (h' : KIn w a' ks) :
    Calls Tryz.prog 27 #[.slice a ks.length cap, .slice a' ks.length cap'] w fun e w' => e = .returned (.bool true) ∧ Below w.heap.size w w' := by
  obtain ⟨n, hnn⟩ : ∃ n, n = ks.length := ⟨_, rfl⟩
  have HN : Hid (n = ks.length) := hnn
  rw [← hnn] at hn ⊢
  by_cases hn0 : n = 0
  · subst hn0
    clear h h' hnn hn HN
    go_enter Tryz.func27, Tryz.ntmps27
    go_wp2
    refine wp_loop_rounds 1 ?_
    rw [rounds_succ]
    go_wp2
    go_ret
    exact ⟨rfl, Below.refl _ _⟩
  · obtain ⟨b, off, rfl, hlt, hc⟩ := h.resolve_left (by omega)
    obtain ⟨b', off', rfl, hlt', hc'⟩ := h'.resolve_left (by omega)
    have HC : Hid (Ints w b off ks) := hc
    have HC' : Hid (Ints w b' off' ks) := hc'
    clear h h' hc hc' hnn
    go_enter Tryz.func27, Tryz.ntmps27
    go_wp2
    go_loopw [5] (fun i wr => ∃ (k : Nat), k ≤ n ∧ i = .int .i64 k ∧ Hid (Below w.heap.size w wr)) (fun i _ => n - (intOf i).toNat)
    case atStart => exact ⟨0, Nat.zero_le _, rfl, Below.refl _ _⟩
    case round =>
      obtain ⟨k, hk, rfl, HB⟩ := hrel
      by_cases hlk : k < n
      · have hlkz : (k : Int) < (n : Int) := by omega
        have x0 := fun d os => ((bl_trans HB.out (bl_regrown (w := wr) d os)).cell (p := ⟨b, off + k, none⟩) hlt).trans (HC.out k (by rw [← HN.out]; exact hlk))
        have x1 := fun d os => ((bl_trans HB.out (bl_regrown (w := wr) d os)).cell (p := ⟨b', off' + k, none⟩) hlt').trans (HC'.out k (by rw [← HN.out]; exact hlk))
        generalize ks[k]?.getD 0 = z at x0 x1
        go_wp2_with fail
        refine wp_region_quiet_below (by kernel_rfl) (by kernel_rfl) ?_
        quiet_step (fail)
        quiet_step (fail)
        quiet_step (fail)
        quiet_step (fail)
        quiet_step (fail)
        quiet_step (fail)
        quiet_step (fail)
        quiet_step (fail)
        quiet_step (fail)
        refine wpQuiet_nil ?_
        intro _ hw'
        obtain ⟨⟨dq, osq⟩, hw''⟩ := hw'
        subst hw''
        go_wp2_with fail
        go_roundw
        case rel => exact ⟨k + 1, by omega, by go_num, bl_trans HB.out (bl_regrown (w := wr) dq osq)⟩
        case measure => simp [intOf]; omega
      · obtain rfl : k = n := by omega
        have hlkz : ¬ (k : Int) < (k : Int) := by omega
        go_wp2
        go_ret
        exact ⟨rfl, HB.out⟩
end Go.Proofs.YtdcaicoomldmgaaGreatDoor

/- DvStxF -/
namespace Go.Proofs.YtdcaicoomldmgaaGreatDoor
open Go.RowKit Go.Deep
set_option maxRecDepth 100000

/-- A struct of two fields at the head of block b. -/
def Bx2 (w : World) (b : Nat) (v0 v1 : Value) : Prop := w.cell? ⟨b, 0, none⟩ = some v0 ∧ w.cell? ⟨b, 1, none⟩ = some v1 ∧ b < w.heap.size
theorem Bx2.below {w w' : World} {b : Nat} {v0 v1 : Value} (h : Bx2 w b v0 v1) (hb : Below w.heap.size w w') : Bx2 w' b v0 v1 :=
  ⟨(hb.cell (p := ⟨b, 0, none⟩) h.2.2).trans h.1, (hb.cell (p := ⟨b, 1, none⟩) h.2.2).trans h.2.1, Nat.lt_of_lt_of_le h.2.2 hb.size⟩
theorem Bx2.new (w : World) (v0 v1 : Value) (t : TypeId) : Bx2 (w.alloc (.cells #[v0, v1] t)) w.heap.size v0 v1 := by
  refine ⟨?_, ?_, by simp⟩ <;> simp [go_sem]

/-- What a scan tells. -/
def ScanAns (tb : List TB) (rs : List (List (Int × Int × Int))) (order : Int) (ks : List Int) (L : List (Int × Int × Int)) : Prop :=
  (Good tb rs ∧ 0 ≤ order ∧ order ≤ 5 ∧ ks.length ≤ 3 ∧ ∃ l, rs[order.toNat]? = some l ∧ L = scanL order.toNat ks l) ∨ (¬ (Good tb rs ∧ 0 ≤ order ∧ order ≤ 5 ∧ ks.length ≤ 3) ∧ L = [])
theorem ScanAns.unique {tb : List TB} {rs : List (List (Int × Int × Int))} {order : Int} {ks : List Int} {L L' : List (Int × Int × Int)} (h : ScanAns tb rs order ks L) (h' : ScanAns tb rs order ks L') : L = L' := by
  rcases h with ⟨g, h1, h2, h3, l, hl, rfl⟩ | ⟨hn, rfl⟩
  · rcases h' with ⟨_, _, _, _, l', hl', rfl⟩ | ⟨hn, _⟩
    · rw [hl] at hl'
      cases hl'
      rfl
    · exact absurd ⟨g, h1, h2, h3⟩ hn
  · rcases h' with ⟨g, h1, h2, h3, _⟩ | ⟨_, rfl⟩
    · exact absurd ⟨g, h1, h2, h3⟩ hn
    · rfl
theorem ScanAns.td {tb tb' : List TB} {rs : List (List (Int × Int × Int))} {order : Int} {ks : List Int} {L : List (Int × Int × Int)} (hg : Good tb' rs ↔ Good tb rs) (h : ScanAns tb' rs order ks L) : ScanAns tb rs order ks L := by
  unfold ScanAns at h ⊢
  rw [hg] at h
  exact h
/-- What the two functions answer. -/
def ScRes (w : World) (P : List (Int × Int × Int) → Prop) (e : Ending) (w' : World) : Prop := ∃ a cap L, e = .returned (.slice a (List.length L) cap) ∧ P L ∧ OwnRR w' w.heap.size (.slice a L.length cap) L ∧ L.length ≤ 1048576 ∧ Below w.heap.size w w'
theorem ScRes.nil {w w' : World} {P : List (Int × Int × Int) → Prop} (h : P []) (hb : Below w.heap.size w w') : ScRes w P (.returned (.slice none 0 0)) w' := ⟨none, 0, [], rfl, h, OwnRR.nil _ _, by simp, hb⟩
theorem ScRes.of {w w1 w' : World} {P : List (Int × Int × Int) → Prop} {L : List (Int × Int × Int)} {e : Ending} (h : ScanRes w1 L e w') (hP : P L) (hl : L.length ≤ 1048576) (hb : Below w.heap.size w w1) : ScRes w P e w' := by
  obtain ⟨a, cap, rfl, ho, hb2⟩ := h
  exact ⟨a, cap, L, rfl, hP, ho.base hb.size, hl, bl_trans hb hb2⟩
theorem scanL_len (o : Nat) (ks : List Int) (l : List (Int × Int × Int)) : (scanL o ks l).length ≤ l.length := List.length_filter_le _ _

set_option maxHeartbeats 4000000 in
theorem implScan_any (aT aR : Option Addr) (capT capR : Nat) (tb : List TB) (rbs : List RB) (order : Int) (pk : Option Addr) (capK : Nat) (ks : List Int) (w : World) (h : SArg w aT tb aR rbs) (hcap : ∀ x ∈ rbs, x.l.length ≤ x.cap) (hkn : ks.length ≤ 1048576) (hI : KIn w pk ks) (ht : Tab w) :
    Calls Tryz.prog 25 #[.agg #[.slice aT tb.length capT, .slice aR rbs.length capR], .int .i64 order, .slice pk ks.length capK] w (ScRes w (ScanAns tb (rbs.map RB.l) order ks)) := by
  have hO := fun o => implStoreOk_any aT aR capT capR tb rbs (w.alloc o) (h.below (bl_a o)) (ht.below (bl_a o))
  have HS : Hid (SArg w aT tb aR rbs) := h
  have HC : Hid (∀ x ∈ rbs, x.l.length ≤ x.cap) := hcap
  have HI : Hid (KIn w pk ks) := hI
  obtain ⟨P, hP⟩ : ∃ P, P = ScanAns tb (rbs.map RB.l) order ks := ⟨_, rfl⟩
  have HP : Hid (P = ScanAns tb (rbs.map RB.l) order ks) := hP
  obtain ⟨nT, hnT⟩ : ∃ nT, nT = tb.length := ⟨_, rfl⟩
  obtain ⟨nR, hnR⟩ : ∃ nR, nR = rbs.length := ⟨_, rfl⟩
  obtain ⟨k, hk⟩ : ∃ k, k = ks.length := ⟨_, rfl⟩
  have HNR : Hid (nR = rbs.length) := hnR
  have HK : Hid (k = ks.length) := hk
  rw [← hP, ← hnT, ← hnR, ← hk]
  rw [← hnT, ← hnR] at hO
  rw [← hk] at hkn
  clear h hcap hI ht hP hnT hnR hk
  go_enter Tryz.func25, Tryz.ntmps25
  go_wp2_with fail
  refine (hO _).mono ?_
  rintro e w1 ⟨q, rfl, hq, hb1⟩
  have HQ : Hid (q = true ↔ Good tb (rbs.map RB.l)) := hq
  have HBX : Hid (Bx2 w1 w.heap.size (.slice aT nT capT) (.slice aR nR capR)) := (Bx2.new w _ _ 29).below hb1
  have HB1 : Hid (Below w.heap.size w w1) := bl_trans (bl_a _) hb1
  clear hO hq hb1
  cases q
  · have hno : P [] := by
      rw [HP.out]
      exact .inr ⟨fun g => (by have := HQ.out.2 g.1; cases this), rfl⟩
    have HNO : Hid (P []) := hno
    clear hno
    go_wp2_with fail
    go_ret
    exact ScRes.nil HNO.out HB1.out
  · by_cases hin : 0 ≤ order ∧ order ≤ 5
    · obtain ⟨hin0, hin5⟩ := hin
      have hW : ∀ W, Calls Tryz.prog 62 #[.int .i64 order, .int .i64 0, .int .i64 5] W fun e w' => e = .returned (.bool true) ∧ w' = W := fun W => by
        have := within_any order 0 5 W
        rw [decide_eq_true hin0, decide_eq_true hin5] at this
        exact this
      by_cases hk3 : k ≤ 3
      · obtain ⟨o, ho, ho6⟩ : ∃ o : Nat, order = o ∧ o < 6 := ⟨order.toNat, by omega, by omega⟩
        subst ho
        have hk3z : ¬ (k : Int) > 3 := by omega
        have hg : Good tb (rbs.map RB.l) := HQ.out.1 (by simp)
        have h6 : rbs.length = 6 := by have := hg.six; simpa using this
        obtain ⟨x, hx⟩ : ∃ x, rbs[o]? = some x := ⟨_, List.getElem?_eq_getElem (by omega)⟩
        have hxm := List.mem_of_getElem? hx
        have hS1 := HS.out.below HB1.out
        have hrow := hg.row o x.l (by rw [List.getElem?_map, hx]; rfl)
        have hSC := scan_any o x.a x.cap x.l pk capK ks w1 ho6 (hS1.hold x hxm).2 (HC.out x hxm) (by rw [← HK.out]; exact hk3) (hS1.hold x hxm).1 (by
          rcases HI.out.below HB1.out with e | e
          · exact .inl e
          · exact .inr e) hrow.asc
        rw [← HK.out] at hSC
        obtain ⟨bR, oR, ea, hbR, hcR⟩ := hS1.srow.resolve_left (fun e => by rw [e] at h6; simp at h6)
        have hc := hcR o x hx
        subst ea
        have hPL : P (scanL o ks x.l) := by
          rw [HP.out]
          exact .inl ⟨hg, by omega, by omega, by rw [← HK.out]; exact hk3, x.l, by rw [List.getElem?_map]; simp [hx], by simp⟩
        have HPL : Hid (P (scanL o ks x.l)) := hPL
        have HLN : Hid ((scanL o ks x.l).length ≤ 1048576) := Nat.le_trans (scanL_len _ _ _) (hS1.hold x hxm).2
        have hn6 : nR = 6 := by rw [HNR.out]; exact h6
        subst hn6
        have hoz : (o : Int) < 6 := by omega
        obtain ⟨c0, c1, c2⟩ := id HBX.out
        clear hg hS1 hrow hcR hPL h6 hx hxm hin0 hin5
        generalize x.l.length = m at *
        go_wp2_with (first | (go_at_call 62; refine (hW _).mono ?_; rintro e w2 ⟨rfl, rfl⟩))
        refine hSC.mono ?_
        intro e w3 hr
        have hr' := ScRes.of (P := P) hr HPL.out HLN.out HB1.out
        clear hr hSC
        obtain ⟨a', c', L', rfl, hres⟩ := hr'
        have HRES : Hid (P L' ∧ OwnRR w3 w.heap.size (.slice a' L'.length c') L' ∧ L'.length ≤ 1048576 ∧ Below w.heap.size w w3) := hres
        clear hres
        go_wp2_with fail
        go_ret
        exact ⟨a', c', L', rfl, HRES.out⟩
      · have hk3z : (k : Int) > 3 := by omega
        have HNO : Hid (P []) := by
          show P []
          rw [HP.out]
          exact .inr ⟨fun g => hk3 (by rw [HK.out]; exact g.2.2.2), rfl⟩
        go_wp2_with (first | (go_at_call 62; refine (hW _).mono ?_; rintro e w2 ⟨rfl, rfl⟩))
        go_ret
        exact ScRes.nil HNO.out HB1.out
    · have hW : ∀ W, Calls Tryz.prog 62 #[.int .i64 order, .int .i64 0, .int .i64 5] W fun e w' => e = .returned (.bool false) ∧ w' = W := fun W => by
        have h := within_any order 0 5 W
        have e : (decide (0 ≤ order) && decide (order ≤ 5)) = false := by
          by_cases h0 : 0 ≤ order
          · have : ¬ order ≤ 5 := fun h5 => hin ⟨h0, h5⟩
            simp [this]
          · simp [h0]
        rw [e] at h
        exact h
      have HNO : Hid (P []) := by
        show P []
        rw [HP.out]
        exact .inr ⟨fun g => hin ⟨g.2.1, g.2.2.1⟩, rfl⟩
      clear hin
      go_wp2_with (first | (go_at_call 62; refine (hW _).mono ?_; rintro e w2 ⟨rfl, rfl⟩))
      go_ret
      exact ScRes.nil HNO.out HB1.out

set_option maxHeartbeats 4000000 in
theorem specScan_any (aT aR : Option Addr) (capT capR : Nat) (tb : List TB) (rbs : List RB) (order : Int) (pk : Option Addr) (capK : Nat) (ks : List Int) (w : World) (h : SArg w aT tb aR rbs) (hkn : ks.length ≤ 1048576) (hI : KIn w pk ks) :
    Calls Tryz.prog 23 #[.agg #[.slice aT tb.length capT, .slice aR rbs.length capR], .int .i64 order, .slice pk ks.length capK] w (ScRes w (ScanAns tb (rbs.map RB.l) order ks)) := by
  have hO := fun o => specStoreOk_any aT aR capT capR tb rbs (w.alloc o) (h.below (bl_a o))
  have HS : Hid (SArg w aT tb aR rbs) := h
  have HI : Hid (KIn w pk ks) := hI
  obtain ⟨P, hP⟩ : ∃ P, P = ScanAns tb (rbs.map RB.l) order ks := ⟨_, rfl⟩
  have HP : Hid (P = ScanAns tb (rbs.map RB.l) order ks) := hP
  obtain ⟨nT, hnT⟩ : ∃ nT, nT = tb.length := ⟨_, rfl⟩
  obtain ⟨nR, hnR⟩ : ∃ nR, nR = rbs.length := ⟨_, rfl⟩
  obtain ⟨k, hk⟩ : ∃ k, k = ks.length := ⟨_, rfl⟩
  have HNR : Hid (nR = rbs.length) := hnR
  have HK : Hid (k = ks.length) := hk
  rw [← hP, ← hnT, ← hnR, ← hk]
  rw [← hnT, ← hnR] at hO
  rw [← hk] at hkn
  clear h hI hP hnT hnR hk
  go_enter Tryz.func23, Tryz.ntmps23
  go_wp2_with fail
  refine (hO _).mono ?_
  rintro e w1 ⟨q, rfl, hq, hb1⟩
  have HQ : Hid (q = true ↔ Good tb (rbs.map RB.l)) := hq
  have HBX : Hid (Bx2 w1 w.heap.size (.slice aT nT capT) (.slice aR nR capR)) := (Bx2.new w _ _ 29).below hb1
  have HB1 : Hid (Below w.heap.size w w1) := bl_trans (bl_a _) hb1
  clear hO hq hb1
  cases q
  · have HNO : Hid (P []) := by
      show P []
      rw [HP.out]
      exact .inr ⟨fun g => (by have := HQ.out.2 g.1; cases this), rfl⟩
    go_wp2_with fail
    go_ret
    exact ScRes.nil HNO.out HB1.out
  · by_cases hin0 : order < 0
    · have HNO : Hid (P []) := by
        show P []
        rw [HP.out]
        exact .inr ⟨fun g => by omega, rfl⟩
      go_wp2_with fail
      go_ret
      exact ScRes.nil HNO.out HB1.out
    · by_cases hin5 : order > 5
      · have HNO : Hid (P []) := by
          show P []
          rw [HP.out]
          exact .inr ⟨fun g => by omega, rfl⟩
        go_wp2_with fail
        go_ret
        exact ScRes.nil HNO.out HB1.out
      · by_cases hk3 : k ≤ 3
        · obtain ⟨o, ho, ho6⟩ : ∃ o : Nat, order = o ∧ o < 6 := ⟨order.toNat, by omega, by omega⟩
          subst ho
          have hk3z : ¬ (k : Int) > 3 := by omega
          have hg : Good tb (rbs.map RB.l) := HQ.out.1 (by simp)
          have h6 : rbs.length = 6 := by have := hg.six; simpa using this
          obtain ⟨x, hx⟩ : ∃ x, rbs[o]? = some x := ⟨_, List.getElem?_eq_getElem (by omega)⟩
          have hxm := List.mem_of_getElem? hx
          have hS1 := HS.out.below HB1.out
          have hSC := l3scan_any w.heap.size o aR capR rbs x pk capK ks w1 ho6 hx (hS1.hold x hxm).2 (by rw [← HK.out]; exact hk3) HBX.out.2.2 (by rw [← HNR.out]; exact HBX.out.2.1) hS1.srow (hS1.hold x hxm).1 (by
            rcases HI.out.below HB1.out with e | e
            · exact .inl e
            · exact .inr e)
          rw [← HK.out] at hSC
          have hPL : P (scanL o ks x.l) := by
            rw [HP.out]
            exact .inl ⟨hg, by omega, by omega, by rw [← HK.out]; exact hk3, x.l, by rw [List.getElem?_map]; simp [hx], by simp⟩
          have HPL : Hid (P (scanL o ks x.l)) := hPL
          have HLN : Hid ((scanL o ks x.l).length ≤ 1048576) := Nat.le_trans (scanL_len _ _ _) (hS1.hold x hxm).2
          clear hg hS1 hPL h6 hx hxm
          go_wp2_with fail
          refine hSC.mono ?_
          intro e w3 hr
          have hr' := ScRes.of (P := P) hr HPL.out HLN.out HB1.out
          clear hr hSC
          obtain ⟨a', c', L', rfl, hres⟩ := hr'
          have HRES : Hid (P L' ∧ OwnRR w3 w.heap.size (.slice a' L'.length c') L' ∧ L'.length ≤ 1048576 ∧ Below w.heap.size w w3) := hres
          clear hres
          go_wp2_with fail
          go_ret
          exact ⟨a', c', L', rfl, HRES.out⟩
        · have hk3z : (k : Int) > 3 := by omega
          have HNO : Hid (P []) := by
            show P []
            rw [HP.out]
            exact .inr ⟨fun g => hk3 (by rw [HK.out]; exact g.2.2.2), rfl⟩
          go_wp2_with fail
          go_ret
          exact ScRes.nil HNO.out HB1.out
end Go.Proofs.YtdcaicoomldmgaaGreatDoor
