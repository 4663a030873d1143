/- Texts put together: DvStrK DvStxA DvStxB DvStxC -/
import Derived.Test.YtdcaicoomldmgaaGreatDoorMk15
import Derived.BigQuiet
import Derived.Test.YtdcaicoomldmgaaGreatDoorShs
import Derived.Deep.Upon
import Derived.Test.YtdcaicoomldmgaaGreatDoorMk08
import Derived.Test.YtdcaicoomldmgaaGreatDoorMk38
import Derived.Lib.QuietBelow
/- DvStrK -/
namespace Go.Proofs.YtdcaicoomldmgaaGreatDoor
open Go.RowKit Go.Deep
set_option maxRecDepth 100000

theorem sliceCompare_empty (p p' : Option Addr) (cap cap' : Nat) (w : World) :
    Calls Tryz.prog 120 #[.slice p 0 cap, .slice p' 0 cap'] w fun e w' => e = .returned (.int .i64 0) ∧ w' = w := by
  go_enter Tryz.func120, Tryz.ntmps120
  go_wp2_with fail
  go_loop [11] (fun i => i = .int .i64 0) (fun i => 0)
  case atStart => rfl
  case round =>
    subst hrel
    go_wp2_with fail
    go_ret
    exact ⟨rfl, rfl⟩

theorem Arr3.take {w : World} {g : Nat} {x : Int × Int × Int} (h : Arr3 w g x) (k : Nat) (hk : k ≤ 3) : Ints w g 0 ([x.1, x.2.1, x.2.2].take k) := by
  intro i hi
  have hi' : i < k ∧ i < 3 := by simp at hi; omega
  rw [List.getElem?_take_of_lt hi'.1]
  exact h.ints i (by simp; omega)

set_option maxHeartbeats 4000000 in
theorem compareKeys_any (o : Nat) (x : Int × Int × Int) (w : World) (ho : o < 6) (pk : Option Addr) (cap : Nat) (k : Nat) (ks : List Int) (hkl : ks.length = k) (hk : k ≤ 3) (hI : k = 0 ∨ ∃ b off, pk = some ⟨b, off, none⟩ ∧ b < w.heap.size ∧ Ints w b off ks) :
    Calls Tryz.prog 104 #[.int .i64 o, .agg #[.int .i64 x.1, .int .i64 x.2.1, .int .i64 x.2.2], .slice pk k cap] w fun e w' => e = .returned (.int .i64 (lexI ([(rkey o x).1, (rkey o x).2.1, (rkey o x).2.2].take k) ks)) ∧ Gr w w' := by
  have N1 := fun w => numbers_any o x w ho
  generalize rkey o x = p at *
  obtain ⟨r, hr⟩ : ∃ r, r = lexI ([p.1, p.2.1, p.2.2].take k) ks := ⟨_, rfl⟩
  have HCM : Hid (∀ (g : Nat) (w' : World), Gr w w' → Arr3 w' g p → Calls Tryz.prog 120 #[.slice (some ⟨g, 0, none⟩) k 3, .slice pk k cap] w' fun e w'' => e = .returned (.int .i64 r) ∧ w'' = w') := by
    show ∀ (g : Nat) (w' : World), _
    intro g w' hG h
    rcases hI with rfl | ⟨b, off, rfl, hb, hI⟩
    · have : r = 0 := by rw [hr]; simp [lexI]
      rw [this]
      exact sliceCompare_empty _ _ _ _ _
    · have hl : ([p.1, p.2.1, p.2.2].take k).length = k := by simp; omega
      have := sliceCompare_any g 0 3 b off cap ([p.1, p.2.1, p.2.2].take k) ks w' (by rw [hl, hkl]) (by rw [hl]; omega) (h.take k hk) (fun i hi => by
        exact gcell_keep hG (hI i hi) hb)
      rw [hl, ← hr] at this
      exact this
  rw [← hr]
  clear hI hr hkl
  have hk4 : k = 0 ∨ k = 1 ∨ k = 2 ∨ k = 3 := by omega
  clear hk
  rcases hk4 with rfl | rfl | rfl | rfl
  all_goals
    go_enter Tryz.func104, Tryz.ntmps104
    go_wp2_with fail
    refine (N1 _).mono ?_
    rintro e w1 ⟨rfl, o1, o2, rfl⟩
    clear N1
    go_wp2_with fail
    refine (HCM.out _ _ ?_ ?_).mono ?_
    · repeat (first | with_reducible exact Gr.refl _ | with_reducible apply gr_alloc | with_reducible apply gr_drew | with_reducible apply gr_drewN)
    · simp [Arr3, go_sem]
    rintro e w2 ⟨rfl, rfl⟩
    go_wp2_with fail
    go_ret
    refine ⟨rfl, ?_⟩
    repeat (first | with_reducible exact Gr.refl _ | with_reducible apply gr_alloc | with_reducible apply gr_drew | with_reducible apply gr_drewN)
end Go.Proofs.YtdcaicoomldmgaaGreatDoor

/- DvStxA -/
namespace Go.Proofs.YtdcaicoomldmgaaGreatDoor
open Go.RowKit Go.Deep Go.Sort Go.Lib
set_option maxRecDepth 100000

theorem lexI_cons (x y : Int) (xs ys : List Int) : lexI (x :: xs) (y :: ys) = if x < y then -1 else if y < x then 1 else lexI xs ys := by
  simp only [lexI, orI, cmpI]
  by_cases h : x < y
  · simp [h]
  · by_cases h' : y < x
    · simp [h, h']
    · simp [h, h']
theorem lexI_mono : ∀ (X Y ks : List Int), X.length = Y.length → ks.length ≤ X.length → lexI X Y ≤ 0 → (0 ≤ lexI (X.take ks.length) ks → 0 ≤ lexI (Y.take ks.length) ks) ∧ (0 < lexI (X.take ks.length) ks → 0 < lexI (Y.take ks.length) ks)
  | _, _, [], _, _, _ => by simp [lexI]
  | [], _, _ :: _, _, h, _ => by simp at h
  | _ :: _, [], _ :: _, h, _, _ => by simp at h
  | x :: xs, y :: ys, z :: zs, h1, h2, h3 => by
    simp only [List.length_cons, Nat.add_right_cancel_iff, Nat.add_le_add_iff_right] at h1 h2
    have ih := lexI_mono xs ys zs h1 h2
    rw [lexI_cons] at h3
    simp only [List.length_cons, List.take_succ_cons, lexI_cons]
    by_cases a1 : x < y
    · by_cases a2 : x < z
      · simp [a2]
      · have a3 : z < y := by omega
        have a4 : ¬ y < z := by omega
        simp [a3, a4]
    · rw [if_neg a1] at h3
      by_cases a2 : y < x
      · rw [if_pos a2] at h3
        omega
      · rw [if_neg a2] at h3
        obtain rfl : x = y := by omega
        by_cases a3 : x < z
        · simp [a3]
        · by_cases a4 : z < x
          · simp [a3, a4]
          · simp only [if_neg a3, if_neg a4]
            exact ih h3
theorem lexI_eq : ∀ (X ks : List Int), X.length = ks.length → (lexI X ks = 0 ↔ X = ks)
  | [], [], _ => by simp [lexI]
  | [], _ :: _, h => by simp at h
  | _ :: _, [], h => by simp at h
  | x :: xs, y :: ys, h => by
    have ih := lexI_eq xs ys (by simpa using h)
    rw [lexI_cons]
    by_cases a1 : x < y
    · simp [a1]; omega
    · by_cases a2 : y < x
      · simp [a1, a2]; omega
      · obtain rfl : x = y := by omega
        simp [ih]
/-- A list that is first below, then at, then above: the middle is what is at. -/
theorem mid_filter {α : Type} (f : α → Int) : ∀ (l : List α), l.Pairwise (fun x y => (0 ≤ f x → 0 ≤ f y) ∧ (0 < f x → 0 < f y)) →
    (l.drop (l.countP fun x => decide (f x < 0))).take ((l.countP fun x => decide (f x ≤ 0)) - l.countP fun x => decide (f x < 0)) = l.filter fun x => decide (f x = 0)
  | [], _ => by simp
  | x :: l, h => by
    have hp := List.pairwise_cons.1 h
    have ih := mid_filter f l hp.2
    by_cases h1 : f x < 0
    · have h2 : f x ≤ 0 := by omega
      have h3 : ¬ f x = 0 := by omega
      rw [List.countP_cons_of_pos (p := fun x => decide (f x < 0)) (by simpa using h1), List.countP_cons_of_pos (p := fun x => decide (f x ≤ 0)) (by simpa using h2), List.filter_cons_of_neg (by simpa using h3)]
      rw [List.drop_succ_cons, ← ih]
      congr 1
      omega
    · have e1 : (l.countP fun x => decide (f x < 0)) = 0 := by
        rw [List.countP_eq_zero]
        intro y hy
        have := (hp.1 y hy).1 (by omega)
        simpa using this
      rw [e1] at ih
      rw [List.countP_cons_of_neg (p := fun x => decide (f x < 0)) (by simpa using h1), e1]
      by_cases h2 : f x ≤ 0
      · rw [List.countP_cons_of_pos (p := fun x => decide (f x ≤ 0)) (by simpa using h2), List.filter_cons_of_pos (by simp; omega)]
        simp only [List.drop_zero, Nat.sub_zero, List.take_succ_cons] at ih ⊢
        rw [ih]
      · have e2 : (l.countP fun x => decide (f x ≤ 0)) = 0 := by
          rw [List.countP_eq_zero]
          intro y hy
          have := (hp.1 y hy).2 (by omega)
          simp
          omega
        rw [e2] at ih
        rw [List.countP_cons_of_neg (p := fun x => decide (f x ≤ 0)) (by simpa using h2), e2, List.filter_cons_of_neg (by simp; omega)]
        simpa using ih
theorem countP_mono_le {α : Type} (f : α → Int) (l : List α) : (l.countP fun x => decide (f x < 0)) ≤ l.countP fun x => decide (f x ≤ 0) :=
  List.countP_mono_left fun x _ h => by simp at h ⊢; omega

/-- How a row stands to the keys, in an order. -/
def kcmp (o : Nat) (ks : List Int) (x : Int × Int × Int) : Int := lexI ([(rkey o x).1, (rkey o x).2.1, (rkey o x).2.2].take ks.length) ks
/-- The rows that begin with the keys. -/
def scanL (o : Nat) (ks : List Int) (l : List (Int × Int × Int)) : List (Int × Int × Int) := l.filter fun x => decide (kcmp o ks x = 0)
theorem kcmp_mono {o : Nat} {ks : List Int} (hk : ks.length ≤ 3) {x y : Int × Int × Int} (h : rcmp o x y ≤ 0) : (0 ≤ kcmp o ks x → 0 ≤ kcmp o ks y) ∧ (0 < kcmp o ks x → 0 < kcmp o ks y) := by
  rw [← lexI_rcmp] at h
  exact lexI_mono _ _ ks rfl (by simpa using hk) h
theorem kcmp_eq {o : Nat} {ks : List Int} (hk : ks.length ≤ 3) (x : Int × Int × Int) : kcmp o ks x = 0 ↔ [(rkey o x).1, (rkey o x).2.1, (rkey o x).2.2].take ks.length = ks :=
  lexI_eq _ _ (by simp; omega)
theorem scanL_mid {o : Nat} {ks : List Int} (hk : ks.length ≤ 3) {l : List (Int × Int × Int)} (h : l.Pairwise (fun x y => rcmp o x y ≤ 0)) :
    (l.drop (l.countP fun x => decide (kcmp o ks x < 0))).take ((l.countP fun x => decide (kcmp o ks x ≤ 0)) - l.countP fun x => decide (kcmp o ks x < 0)) = scanL o ks l :=
  mid_filter (kcmp o ks) l (h.imp fun hxy => kcmp_mono hk hxy)

set_option maxHeartbeats 2000000 in
theorem scanC1_any (bo br bk o b off capR n : Nat) (x : Int × Int × Int) (pk : Option Addr) (capK k : Nat) (ks : List Int) (i : Nat) (W : World) (ho : o < 6) (hi : i < n) (hkl : ks.length = k) (hk : k ≤ 3)
    (lo : bo < W.heap.size) (lr : br < W.heap.size) (lk : bk < W.heap.size) (lb : b < W.heap.size)
    (c0 : W.cell? ⟨bo, 0, none⟩ = some (.int .i64 o)) (c1 : W.cell? ⟨br, 0, none⟩ = some (.slice (some ⟨b, off, none⟩) n capR)) (c2 : W.cell? ⟨bk, 0, none⟩ = some (.slice pk k capK))
    (r0 : W.cell? ⟨b, off + i * 3, none⟩ = some (.int .i64 x.1)) (r1 : W.cell? ⟨b, off + i * 3 + 1, none⟩ = some (.int .i64 x.2.1)) (r2 : W.cell? ⟨b, off + i * 3 + 2, none⟩ = some (.int .i64 x.2.2))
    (hI : k = 0 ∨ ∃ b off, pk = some ⟨b, off, none⟩ ∧ b < W.heap.size ∧ Ints W b off ks) :
    Calls Tryz.prog 103 (#[.int .i64 i] ++ #[.pointer (some ⟨bo, 0, none⟩), .pointer (some ⟨br, 0, none⟩), .pointer (some ⟨bk, 0, none⟩)]) W fun e w' => e = .returned (.bool (decide (0 ≤ kcmp o ks x))) ∧ ∃ q os, w' = grow (W.drewN q) os := by
  have hmix : Tryz.prog.follows .mixedOrders = true := by kernel_rfl
  have hcg : ∀ n os, Calls Tryz.prog 104 #[.int .i64 o, .agg #[.int .i64 x.1, .int .i64 x.2.1, .int .i64 x.2.2], .slice pk k capK] (grow (W.drewN n) os) fun e w' => e = .returned (.int .i64 (kcmp o ks x)) ∧ ∃ q os', w' = grow ((grow (W.drewN n) os).drewN q) os' := fun n os => by
    have := compareKeys_any o x (grow (W.drewN n) os) ho pk capK k ks hkl hk (by
      rcases hI with h | ⟨b, off, h1, h2, h3⟩
      · exact .inl h
      · refine .inr ⟨b, off, h1, by simp; omega, fun j hj => ?_⟩
        exact Go.cell_grown h2 (h3 j hj) n os)
    rw [← hkl] at this
    rw [← hkl]
    exact this.mono fun _ _ h => ⟨h.1, h.2.grown⟩
  have d0 := fun n os => Go.cell_grown lo c0 n os
  have d1 := fun n os => Go.cell_grown lr c1 n os
  have d2 := fun n os => Go.cell_grown lk c2 n os
  have e0 := fun n os => Go.cell_grown lb r0 n os
  have e1 := fun n os => Go.cell_grown lb r1 n os
  have e2 := fun n os => Go.cell_grown lb r2 n os
  generalize kcmp o ks x = q at *
  clear hI hkl hk c0 c1 c2 r0 r1 r2 lo lr lk lb ho
  have hiz : (i : Int) < (n : Int) := by omega
  go_enter Tryz.func103, Tryz.ntmps103
  go_wp2_with fail
  go_quiet_grown (first | (go_at_call 104; refine Calls.grown_of (hcg _ _)))
  go_wp2_with fail
  go_ret
  exact ⟨by simp, nq, osq, rfl⟩

set_option maxHeartbeats 2000000 in
theorem scanC2_any (bo br bk o b off capR n : Nat) (x : Int × Int × Int) (pk : Option Addr) (capK k : Nat) (ks : List Int) (i : Nat) (W : World) (ho : o < 6) (hi : i < n) (hkl : ks.length = k) (hk : k ≤ 3)
    (lo : bo < W.heap.size) (lr : br < W.heap.size) (lk : bk < W.heap.size) (lb : b < W.heap.size)
    (c0 : W.cell? ⟨bo, 0, none⟩ = some (.int .i64 o)) (c1 : W.cell? ⟨br, 0, none⟩ = some (.slice (some ⟨b, off, none⟩) n capR)) (c2 : W.cell? ⟨bk, 0, none⟩ = some (.slice pk k capK))
    (r0 : W.cell? ⟨b, off + i * 3, none⟩ = some (.int .i64 x.1)) (r1 : W.cell? ⟨b, off + i * 3 + 1, none⟩ = some (.int .i64 x.2.1)) (r2 : W.cell? ⟨b, off + i * 3 + 2, none⟩ = some (.int .i64 x.2.2))
    (hI : k = 0 ∨ ∃ b off, pk = some ⟨b, off, none⟩ ∧ b < W.heap.size ∧ Ints W b off ks) :
    Calls Tryz.prog 105 (#[.int .i64 i] ++ #[.pointer (some ⟨bo, 0, none⟩), .pointer (some ⟨br, 0, none⟩), .pointer (some ⟨bk, 0, none⟩)]) W fun e w' => e = .returned (.bool (decide (0 < kcmp o ks x))) ∧ ∃ q os, w' = grow (W.drewN q) os := by
  have hmix : Tryz.prog.follows .mixedOrders = true := by kernel_rfl
  have hcg : ∀ n os, Calls Tryz.prog 104 #[.int .i64 o, .agg #[.int .i64 x.1, .int .i64 x.2.1, .int .i64 x.2.2], .slice pk k capK] (grow (W.drewN n) os) fun e w' => e = .returned (.int .i64 (kcmp o ks x)) ∧ ∃ q os', w' = grow ((grow (W.drewN n) os).drewN q) os' := fun n os => by
    have := compareKeys_any o x (grow (W.drewN n) os) ho pk capK k ks hkl hk (by
      rcases hI with h | ⟨b, off, h1, h2, h3⟩
      · exact .inl h
      · refine .inr ⟨b, off, h1, by simp; omega, fun j hj => ?_⟩
        exact Go.cell_grown h2 (h3 j hj) n os)
    rw [← hkl] at this
    rw [← hkl]
    exact this.mono fun _ _ h => ⟨h.1, h.2.grown⟩
  have d0 := fun n os => Go.cell_grown lo c0 n os
  have d1 := fun n os => Go.cell_grown lr c1 n os
  have d2 := fun n os => Go.cell_grown lk c2 n os
  have e0 := fun n os => Go.cell_grown lb r0 n os
  have e1 := fun n os => Go.cell_grown lb r1 n os
  have e2 := fun n os => Go.cell_grown lb r2 n os
  generalize kcmp o ks x = q at *
  clear hI hkl hk c0 c1 c2 r0 r1 r2 lo lr lk lb ho
  have hiz : (i : Int) < (n : Int) := by omega
  go_enter Tryz.func105, Tryz.ntmps105
  go_wp2_with fail
  go_quiet_grown (first | (go_at_call 104; refine Calls.grown_of (hcg _ _)))
  go_wp2_with fail
  go_ret
  exact ⟨by simp, nq, osq, rfl⟩
end Go.Proofs.YtdcaicoomldmgaaGreatDoor

/- DvStxB -/
namespace Go.Proofs.YtdcaicoomldmgaaGreatDoor
open Go.RowKit Go.Deep Go.Sort Go.Lib
set_option maxRecDepth 100000

/-- append of rows to rows of the call's own. -/
theorem appRs {ops : Array Oper} {rest : List Oper} {o : Oper} {a : Act} {Q : Exit → Act → World → Prop} {w : World} (hgd : o.guard = none) (s x : Operand)
    (ho : o.op = .call { callee := .builtin .append, args := #[s, x], argTypes := #[57, 57] })
    (B : Nat) (v : Value) (us : List (Int × Int × Int)) (hs : a.eval s = v) (HO : Hid (OwnRR w B v us))
    (ad : Addr) (m c : Nat) (bs : List (Int × Int × Int)) (hx : a.eval x = .slice (some ad) m c) (hl : bs.length = m) (HN : Hid (∀ j u, (flat3 bs)[j]? = some u → w.cell? (ad.add j) = some u))
    (hm : 0 < m) (N : Nat) (hN : us.length + m = N) (zs : List (Int × Int × Int)) (hz : us ++ bs = zs) (hle : N ≤ 1000000000) (hB : B ≤ w.heap.size)
    (h : ∀ g cap w', Hid (OwnRR w' B (.slice (some ⟨g, 0, none⟩) N cap) zs) → Hid (Below B w w') → wpList Tryz.prog ops Q rest (a.put o.dst (.slice (some ⟨g, 0, none⟩) N cap)) w') :
    wpList Tryz.prog ops Q (o :: rest) a w := by
  obtain ⟨i0, hi0, hzz⟩ := Option.map_eq_some_iff.1 Tryz.info99
  simp only [Prod.mk.injEq] at hzz
  obtain ⟨hi2, hi1, hi3⟩ := hzz
  subst hN hz
  refine wpList_append_lies _ hgd s x 57 ho B 99 i0 (.agg #[.int .i64 0, .int .i64 0, .int .i64 0]) 3 24 Tryz.underlying57 hi0 hi2 hi1 hi3 rfl (by omega) v us.length (flat3 us) hs HO.out.1 ad m c (flat3 bs) hx (by rw [flat3_len, hl]) HN.out (flat3_one bs) hm (by unfold maxLen; omega) (by omega) hB _ rfl ?_
  intro g cap w' hown hgr hat hlt
  have hown' : w'.ownsRow B 99 3 (.slice (some ⟨g, 0, none⟩) (us.length + m) cap) (us ++ bs).length (flat3 (us ++ bs)) := by
    rw [flat3_append, List.length_append, hl]
    exact hown
  refine h g cap w' ⟨hown', fun g' hg' => ?_⟩ ?_
  · have : g = g' := by simpa [Value.ownBlock] using hg'
    subst this
    rcases hown.2 with ⟨hv, _⟩ | ⟨g0, c0, cur, hv, hb, _⟩
    · cases hv
    · cases hv; exact ⟨hb, hlt⟩
  · rcases HO.out.1.2 with ⟨hv, _⟩ | ⟨g0, c0, cur, hv, hb, _⟩
    · subst hv
      exact ⟨hgr.os, hgr.tape, hgr.output, hgr.size, fun b hb => hgr.block b (by omega) (by simp [Value.ownBlock])⟩
    · subst hv
      exact ⟨hgr.os, hgr.tape, hgr.output, hgr.size, fun b hb' => hgr.block b (by omega) (by intro e; have : b = g0 := (by simpa [Value.ownBlock] using e); omega)⟩

/-- append of no rows. -/
theorem appR0 {ops : Array Oper} {rest : List Oper} {o : Oper} {a : Act} {Q : Exit → Act → World → Prop} {w : World} (hgd : o.guard = none) (s x : Operand)
    (ho : o.op = .call { callee := .builtin .append, args := #[s, x], argTypes := #[57, 57] })
    (base : Option Addr) (c : Nat) (hs : a.eval s = .slice base 0 c) (y : Option Addr) (c' : Nat) (hx : a.eval x = .slice y 0 c')
    (h : wpList Tryz.prog ops Q rest (a.put o.dst (.slice base 0 c)) w) : wpList Tryz.prog ops Q (o :: rest) a w := by
  obtain ⟨i0, hi0, hzz⟩ := Option.map_eq_some_iff.1 Tryz.info99
  refine wpList_plain hgd fun _ hK => ?_
  have hsrc : Src Tryz.prog i0.size 57 (.slice y 0 c') 0 [] w := by
    refine ⟨.inl ⟨_, Tryz.underlying57⟩, fun w' => by simp [Builtin.lenOf], ?_, ?_, by simp, fun u hu => by cases hu⟩
    · cases y with
      | none => simp [Builtin.firstCells]
      | some a => simp [Builtin.firstCells]; rfl
    · cases y with
      | none => simp [Builtin.firstCells]
      | some a => simp [Builtin.firstCells]; rfl
  have hr := run_append_nothing (P := Tryz.prog) w 57 57 o.type 99 i0 Tryz.underlying57 hi0 base 0 c (by omega) (.slice y 0 c') hsrc
  unfold Oper.wp execOp
  simp only [ho, resolve, invoke, builtin, Sem.run_bind, Sem.run_pure, Result.andThen_ok, List.map_toArray, List.map_cons, List.map_nil, hs, hx, hr]
  exact hK _ _ h

theorem flat3_piece {l : List (Int × Int × Int)} {f m j : Nat} {u : Value} (hu : (flat3 ((l.drop f).take m))[j]? = some u) : (flat3 l)[f * 3 + j]? = some u := by
  have hj : j < ((l.drop f).take m).length * 3 := by
    have := (List.getElem?_eq_some_iff.1 hu).1
    rwa [flat3_len] at this
  have hi : j / 3 < ((l.drop f).take m).length := by omega
  have hi' := hi
  rw [List.length_take, List.length_drop] at hi'
  have hc : j % 3 < 3 := Nat.mod_lt _ (by omega)
  have e : j = j / 3 * 3 + j % 3 := by omega
  rw [e, flat3_get _ _ _ hi hc] at hu
  have e2 : f * 3 + j = (f + j / 3) * 3 + j % 3 := by omega
  rw [e2, flat3_get l (f + j / 3) (j % 3) (by omega) hc]
  simpa using hu
theorem addr_add (b off j : Nat) : (⟨b, off, none⟩ : Addr).add j = ⟨b, off + j, none⟩ := by
  by_cases h0 : j = 0 <;> simp [Addr.add, h0]

theorem list_range {α : Type} (d : α) (l : List α) : l = (List.range l.length).map fun i => l[i]?.getD d := by
  apply List.ext_getElem
  · simp
  · intro i h1 h2
    simp [List.getElem?_eq_getElem h1]
theorem countP_at {α : Type} (d : α) (f : α → Bool) (l : List α) : (List.range l.length).countP (fun i => f (l[i]?.getD d)) = l.countP f := by
  have h := congrArg (List.countP f) (list_range d l)
  rw [List.countP_map] at h
  exact h.symm

/-- What the closures of a scan see: the order, the rows, the keys, in their boxes. -/
structure SC (W : World) (bo br bk o : Nat) (ar : Option Addr) (capR : Nat) (l : List (Int × Int × Int)) (pk : Option Addr) (capK : Nat) (ks : List Int) : Prop where
  lo : bo < W.heap.size
  lr : br < W.heap.size
  lk : bk < W.heap.size
  c0 : W.cell? ⟨bo, 0, none⟩ = some (.int .i64 o)
  c1 : W.cell? ⟨br, 0, none⟩ = some (.slice ar l.length capR)
  c2 : W.cell? ⟨bk, 0, none⟩ = some (.slice pk ks.length capK)
  hR : RRow W ar l
  hI : ks.length = 0 ∨ ∃ b off, pk = some ⟨b, off, none⟩ ∧ b < W.heap.size ∧ Ints W b off ks
theorem SC.grown {W : World} {bo br bk o : Nat} {ar : Option Addr} {capR : Nat} {l : List (Int × Int × Int)} {pk : Option Addr} {capK : Nat} {ks : List Int} (h : SC W bo br bk o ar capR l pk capK ks) (q : Nat) (os : Array Obj) : SC (grow (W.drewN q) os) bo br bk o ar capR l pk capK ks := by
  have hs : W.heap.size ≤ (grow (W.drewN q) os).heap.size := by simp
  refine ⟨Nat.lt_of_lt_of_le h.lo hs, Nat.lt_of_lt_of_le h.lr hs, Nat.lt_of_lt_of_le h.lk hs, Go.cell_grown h.lo h.c0 q os, Go.cell_grown h.lr h.c1 q os, Go.cell_grown h.lk h.c2 q os, ?_, ?_⟩
  · rcases h.hR with e | ⟨b, off, e, hb, hc⟩
    · exact .inl e
    · exact .inr ⟨b, off, e, Nat.lt_of_lt_of_le hb hs, fun j u hu => Go.cell_grown hb (hc j u hu) q os⟩
  · rcases h.hI with e | ⟨b, off, e, hb, hc⟩
    · exact .inl e
    · exact .inr ⟨b, off, e, Nat.lt_of_lt_of_le hb hs, fun j hj => Go.cell_grown hb (hc j hj) q os⟩
theorem RRow.at3 {w : World} {ar : Option Addr} {l : List (Int × Int × Int)} (h : RRow w ar l) {i : Nat} {x : Int × Int × Int} (hx : l[i]? = some x) : ∃ b off, ar = some ⟨b, off, none⟩ ∧ b < w.heap.size ∧ w.cell? ⟨b, off + i * 3, none⟩ = some (.int .i64 x.1) ∧ w.cell? ⟨b, off + i * 3 + 1, none⟩ = some (.int .i64 x.2.1) ∧ w.cell? ⟨b, off + i * 3 + 2, none⟩ = some (.int .i64 x.2.2) := by
  obtain ⟨hi, rfl⟩ := List.getElem?_eq_some_iff.1 hx
  rcases h with ⟨_, rfl⟩ | ⟨b, off, e, hb, hc⟩
  · simp at hi
  · refine ⟨b, off, e, hb, ?_, ?_, ?_⟩
    · exact hc (i * 3) _ (by have := flat3_get l i 0 hi (by omega); rw [Nat.add_zero] at this; rw [this]; rfl)
    · have := hc (i * 3 + 1) _ (by rw [flat3_get l i 1 hi (by omega)]; rfl)
      rwa [← Nat.add_assoc] at this
    · have := hc (i * 3 + 2) _ (by rw [flat3_get l i 2 hi (by omega)]; rfl)
      rwa [← Nat.add_assoc] at this

theorem search1_any {W : World} {bo br bk o : Nat} {ar : Option Addr} {capR : Nat} {l : List (Int × Int × Int)} {pk : Option Addr} {capK : Nat} {ks : List Int} (h : SC W bo br bk o ar capR l pk capK ks) (ho : o < 6) (hl : l.length ≤ 1048576) (hk : ks.length ≤ 3) (hs : l.Pairwise (fun x y => rcmp o x y ≤ 0)) :
    Calls Tryz.prog 102 #[.int .i64 l.length, .func (.func 103) #[] #[.pointer (some ⟨bo, 0, none⟩), .pointer (some ⟨br, 0, none⟩), .pointer (some ⟨bk, 0, none⟩)]] W fun e w' => e = .returned (.int .i64 (l.countP fun x => decide (kcmp o ks x < 0) : Nat)) ∧ ∃ q os, w' = grow (W.drewN q) os := by
  have hS := Any.sort_Search Tryz.search 103 #[.pointer (some ⟨bo, 0, none⟩), .pointer (some ⟨br, 0, none⟩), .pointer (some ⟨bk, 0, none⟩)] l.length (fun i => decide (0 ≤ kcmp o ks (l[i]?.getD (0, 0, 0)))) W (enters_of Tryz.func103 (by kernel_rfl) rfl) (by omega)
    (fun m os i hi => by
      have h' := h.grown m os
      obtain ⟨x, hx⟩ : ∃ x, l[i]? = some x := ⟨_, List.getElem?_eq_getElem hi⟩
      obtain ⟨b, off, rfl, hb, e0, e1, e2⟩ := h'.hR.at3 hx
      have := scanC1_any bo br bk o b off capR l.length x pk capK ks.length ks i _ ho hi rfl hk h'.lo h'.lr h'.lk hb h'.c0 h'.c1 h'.c2 e0 e1 e2 h'.hI
      rw [hx]
      exact this)
    (fun a b hab hb hp => by
      have ea : l[a]? = some l[a] := List.getElem?_eq_getElem (by omega)
      have eb : l[b]? = some l[b] := List.getElem?_eq_getElem hb
      simp only [ea, eb, Option.getD_some, decide_eq_true_eq] at hp ⊢
      by_cases e : a = b
      · subst e; exact hp
      · exact (kcmp_mono hk (List.pairwise_iff_getElem.1 hs a b (by omega) hb (by omega))).1 hp)
  have e : (List.range l.length).countP (fun i => !decide (0 ≤ kcmp o ks (l[i]?.getD (0, 0, 0)))) = l.countP fun x => decide (kcmp o ks x < 0) := by
    rw [countP_at (0, 0, 0) (fun x => !decide (0 ≤ kcmp o ks x)) l]
    refine List.countP_congr fun x _ => ?_
    simp
  rw [e] at hS
  exact hS
theorem search2_any {W : World} {bo br bk o : Nat} {ar : Option Addr} {capR : Nat} {l : List (Int × Int × Int)} {pk : Option Addr} {capK : Nat} {ks : List Int} (h : SC W bo br bk o ar capR l pk capK ks) (ho : o < 6) (hl : l.length ≤ 1048576) (hk : ks.length ≤ 3) (hs : l.Pairwise (fun x y => rcmp o x y ≤ 0)) :
    Calls Tryz.prog 102 #[.int .i64 l.length, .func (.func 105) #[] #[.pointer (some ⟨bo, 0, none⟩), .pointer (some ⟨br, 0, none⟩), .pointer (some ⟨bk, 0, none⟩)]] W fun e w' => e = .returned (.int .i64 (l.countP fun x => decide (kcmp o ks x ≤ 0) : Nat)) ∧ ∃ q os, w' = grow (W.drewN q) os := by
  have hS := Any.sort_Search Tryz.search 105 #[.pointer (some ⟨bo, 0, none⟩), .pointer (some ⟨br, 0, none⟩), .pointer (some ⟨bk, 0, none⟩)] l.length (fun i => decide (0 < kcmp o ks (l[i]?.getD (0, 0, 0)))) W (enters_of Tryz.func105 (by kernel_rfl) rfl) (by omega)
    (fun m os i hi => by
      have h' := h.grown m os
      obtain ⟨x, hx⟩ : ∃ x, l[i]? = some x := ⟨_, List.getElem?_eq_getElem hi⟩
      obtain ⟨b, off, rfl, hb, e0, e1, e2⟩ := h'.hR.at3 hx
      have := scanC2_any bo br bk o b off capR l.length x pk capK ks.length ks i _ ho hi rfl hk h'.lo h'.lr h'.lk hb h'.c0 h'.c1 h'.c2 e0 e1 e2 h'.hI
      rw [hx]
      exact this)
    (fun a b hab hb hp => by
      have ea : l[a]? = some l[a] := List.getElem?_eq_getElem (by omega)
      have eb : l[b]? = some l[b] := List.getElem?_eq_getElem hb
      simp only [ea, eb, Option.getD_some, decide_eq_true_eq] at hp ⊢
      by_cases e : a = b
      · subst e; exact hp
      · exact (kcmp_mono hk (List.pairwise_iff_getElem.1 hs a b (by omega) hb (by omega))).2 hp)
  have e : (List.range l.length).countP (fun i => !decide (0 < kcmp o ks (l[i]?.getD (0, 0, 0)))) = l.countP fun x => decide (kcmp o ks x ≤ 0) := by
    rw [countP_at (0, 0, 0) (fun x => !decide (0 < kcmp o ks x)) l]
    refine List.countP_congr fun x _ => ?_
    simp
  rw [e] at hS
  exact hS

/-- What scan answers: rows of its own. -/
def ScanRes (w : World) (L : List (Int × Int × Int)) (e : Ending) (w' : World) : Prop := ∃ a cap, e = .returned (.slice a L.length cap) ∧ OwnRR w' w.heap.size (.slice a L.length cap) L ∧ Below w.heap.size w w'

set_option maxHeartbeats 4000000 in
theorem scan_any (o : Nat) (ar : Option Addr) (capR : Nat) (l : List (Int × Int × Int)) (pk : Option Addr) (capK : Nat) (ks : List Int) (w : World) (ho : o < 6) (hl : l.length ≤ 1048576) (hcap : l.length ≤ capR) (hk : ks.length ≤ 3) (hR : RRow w ar l) (hI : ks.length = 0 ∨ ∃ b off, pk = some ⟨b, off, none⟩ ∧ b < w.heap.size ∧ Ints w b off ks) (hs : l.Pairwise (fun x y => rcmp o x y ≤ 0)) :
    Calls Tryz.prog 63 #[.int .i64 o, .slice ar l.length capR, .slice pk ks.length capK] w (ScanRes w (scanL o ks l)) := by
  have HM : Hid _ := scanL_mid hk hs
  have hle : (l.countP fun x => decide (kcmp o ks x < 0)) ≤ l.countP fun x => decide (kcmp o ks x ≤ 0) := countP_mono_le (kcmp o ks) l
  have hln : (l.countP fun x => decide (kcmp o ks x ≤ 0)) ≤ l.length := List.countP_le_length
  have HSC : Hid (∀ W, SC W w.heap.size (w.heap.size + 1) (w.heap.size + 1 + 1) o ar capR l pk capK ks → (Calls Tryz.prog 102 #[.int .i64 l.length, .func (.func 103) #[] #[.pointer (some ⟨w.heap.size, 0, none⟩), .pointer (some ⟨w.heap.size + 1, 0, none⟩), .pointer (some ⟨w.heap.size + 1 + 1, 0, none⟩)]] W fun e w' => e = .returned (.int .i64 (l.countP fun x => decide (kcmp o ks x < 0) : Nat)) ∧ ∃ q os, w' = grow (W.drewN q) os) ∧
      Calls Tryz.prog 102 #[.int .i64 l.length, .func (.func 105) #[] #[.pointer (some ⟨w.heap.size, 0, none⟩), .pointer (some ⟨w.heap.size + 1, 0, none⟩), .pointer (some ⟨w.heap.size + 1 + 1, 0, none⟩)]] W fun e w' => e = .returned (.int .i64 (l.countP fun x => decide (kcmp o ks x ≤ 0) : Nat)) ∧ ∃ q os, w' = grow (W.drewN q) os) := fun W h => ⟨search1_any h ho hl hk hs, search2_any h ho hl hk hs⟩
  obtain ⟨W0, hW0⟩ : ∃ W0, W0 = ((w.alloc (.cells #[.int .i64 o] 75)).alloc (.cells #[.slice ar l.length capR] 57)).alloc (.cells #[.slice pk ks.length capK] 56) := ⟨_, rfl⟩
  have hB0 : Below w.heap.size w W0 := by rw [hW0]; exact bl_alloc (bl_alloc (bl_a _) _) _
  have hSC0 : SC W0 w.heap.size (w.heap.size + 1) (w.heap.size + 1 + 1) o ar capR l pk capK ks := by
    refine ⟨by rw [hW0]; simp; omega, by rw [hW0]; simp, by rw [hW0]; simp, by rw [hW0]; simp [go_sem], by rw [hW0]; simp [go_sem], by rw [hW0]; simp [go_sem], hR.below hB0, ?_⟩
    rcases hI with e | ⟨b, off, e, hb, hc⟩
    · exact .inl e
    · exact .inr ⟨b, off, e, Nat.lt_of_lt_of_le hb hB0.size, fun j hj => (hB0.cell (p := ⟨b, off + j, none⟩) hb).trans (hc j hj)⟩
  have HS0 : Hid (SC W0 w.heap.size (w.heap.size + 1) (w.heap.size + 1 + 1) o ar capR l pk capK ks) := hSC0
  have HB0 : Hid (Below w.heap.size w W0) := hB0
  have h1 := (HSC.out W0 hSC0).1
  have HL : Hid ((scanL o ks l).length = (l.countP fun x => decide (kcmp o ks x ≤ 0)) - l.countP fun x => decide (kcmp o ks x < 0)) := by
    show _ = _
    rw [← HM.out, List.length_take, List.length_drop]
    omega
  generalize (l.countP fun x => decide (kcmp o ks x < 0)) = f1 at *
  generalize (l.countP fun x => decide (kcmp o ks x ≤ 0)) = f2 at *
  clear hSC0 hB0 hI hR hs
  obtain ⟨n, hn⟩ : ∃ n, n = l.length := ⟨_, rfl⟩
  have HN : Hid (n = l.length) := hn
  rw [← hn] at h1 hl hcap hln hW0 ⊢
  obtain ⟨k, hk'⟩ : ∃ k, k = ks.length := ⟨_, rfl⟩
  have HK : Hid (k = ks.length) := hk'
  rw [← hk'] at hW0 hk ⊢
  clear hn hk'
  go_enter Tryz.func63, Tryz.ntmps63
  go_wp2_with fail
  rw [← hW0]
  refine h1.mono ?_
  rintro e w1 ⟨rfl, q1, os1, rfl⟩
  have HS1 : Hid (SC (grow (W0.drewN q1) os1) w.heap.size (w.heap.size + 1) (w.heap.size + 1 + 1) o ar capR l pk capK ks) := HS0.out.grown q1 os1
  have HB1 : Hid (Below w.heap.size w (grow (W0.drewN q1) os1)) := HB0.out.trans (below_grown_sl w.heap.size W0 q1 os1 HB0.out.size)
  clear h1 hW0 HS0 HB0
  generalize grow (W0.drewN q1) os1 = W1 at HS1 HB1 ⊢
  have h2 := (HSC.out W1 HS1.out).2
  rw [← HN.out] at h2
  have c1 := HS1.out.c1
  rw [← HN.out] at c1
  go_wp2_with fail
  refine h2.mono ?_
  rintro e w2 ⟨rfl, q2, os2, rfl⟩
  have HS2 : Hid (SC (grow (W1.drewN q2) os2) w.heap.size (w.heap.size + 1) (w.heap.size + 1 + 1) o ar capR l pk capK ks) := HS1.out.grown q2 os2
  have HB2 : Hid (Below w.heap.size w (grow (W1.drewN q2) os2)) := HB1.out.trans (below_grown_sl w.heap.size W1 q2 os2 HB1.out.size)
  clear h2 c1 HS1 HB1 HSC
  generalize grow (W1.drewN q2) os2 = W2 at HS2 HB2 ⊢
  have c1 : ∀ o, (W2.alloc o).cell? ⟨w.heap.size + 1, 0, none⟩ = some (.slice ar n capR) := fun o => by
    rw [HN.out]
    exact ((bl_a o).cell (p := ⟨w.heap.size + 1, 0, none⟩) HS2.out.lr).trans HS2.out.c1
  have hW2 : w.heap.size ≤ W2.heap.size := HB2.out.size
  by_cases hm : f1 < f2
  · obtain ⟨b, off, ea, hb, hc⟩ : ∃ b off, ar = some ⟨b, off, none⟩ ∧ b < W2.heap.size ∧ ∀ j u, (flat3 l)[j]? = some u → W2.cell? ⟨b, off + j, none⟩ = some u := by
      rcases HS2.out.hR with ⟨_, e⟩ | h
      · rw [e] at HN
        have := HN.out
        simp at this
        omega
      · exact h
    subst ea
    have HO : Hid (OwnRR (W2.alloc (.cells #[] 99)) w.heap.size (.slice (some ⟨W2.heap.size, 0, none⟩) 0 0) []) := by
      refine ⟨⟨rfl, .inr ⟨W2.heap.size, 0, #[], rfl, hW2, Go.heap_alloc_new _ _, Nat.le_refl _, Nat.zero_le _, rfl, rfl⟩⟩, fun g hg => ?_⟩
      have : W2.heap.size = g := by simpa [Value.ownBlock] using hg
      subst this
      exact ⟨hW2, by simp⟩
    have HNW : Hid (∀ j u, (flat3 (scanL o ks l))[j]? = some u → (W2.alloc (.cells #[] 99)).cell? ((⟨b, off + f1 * 3, none⟩ : Addr).add j) = some u) := fun j u hu => by
      rw [← HM.out] at hu
      rw [addr_add, Nat.add_assoc]
      exact ((bl_a _).cell (p := ⟨b, off + (f1 * 3 + j), none⟩) hb).trans (hc _ u (flat3_piece hu))
    have hs2 : w.heap.size ≤ (W2.alloc (.cells #[] 99)).heap.size := by simp; omega
    have hfc : ¬ f1 = capR := by omega
    have hfz : (f1 : Int) ≤ (f2 : Int) := by omega
    have hfz2 : (f2 : Int) ≤ (capR : Int) := by omega
    clear hc
    go_wp2_with (refine appRs rfl (.tmp 17) (.tmp 21) rfl w.heap.size (.slice (some ⟨W2.heap.size, 0, none⟩) 0 0) [] rfl HO ⟨b, off + f1 * 3, none⟩ (f2 - f1) (capR - f1) (scanL o ks l) rfl HL.out HNW (by omega) (f2 - f1) (by simp) (scanL o ks l) (by simp) (by omega) hs2 ?_; intro g3 c3 w3 HR3 HB3)
    go_ret
    refine ⟨some ⟨g3, 0, none⟩, c3, by rw [HL.out]; rfl, by rw [HL.out]; exact HR3.out, (bl_alloc HB2.out _).trans HB3.out⟩
  · obtain rfl : f1 = f2 := by omega
    have HE : Hid (scanL o ks l = []) := List.eq_nil_of_length_eq_zero (by rw [HL.out]; omega)
    have hOwn : OwnRR (W2.alloc (.cells #[] 99)) w.heap.size (.slice (some ⟨W2.heap.size, 0, none⟩) 0 0) [] := by
      refine ⟨⟨rfl, .inr ⟨W2.heap.size, 0, #[], rfl, hW2, Go.heap_alloc_new _ _, Nat.le_refl _, Nat.zero_le _, rfl, rfl⟩⟩, fun g hg => ?_⟩
      have : W2.heap.size = g := by simpa [Value.ownBlock] using hg
      subst this
      exact ⟨hW2, by simp⟩
    have HO : Hid (OwnRR (W2.alloc (.cells #[] 99)) w.heap.size (.slice (some ⟨W2.heap.size, 0, none⟩) 0 0) []) := hOwn
    clear hOwn
    have hfz2 : (f1 : Int) ≤ (capR : Int) := by omega
    go_wp2_with (refine appR0 rfl (.tmp 17) (.tmp 21) rfl (some ⟨W2.heap.size, 0, none⟩) 0 rfl _ _ rfl ?_)
    all_goals go_ret
    all_goals exact ⟨some ⟨W2.heap.size, 0, none⟩, 0, by rw [HE.out]; rfl, by rw [HE.out]; exact HO.out, bl_alloc HB2.out _⟩
end Go.Proofs.YtdcaicoomldmgaaGreatDoor

/- DvStxC -/
namespace Go.Proofs.YtdcaicoomldmgaaGreatDoor
open Go.RowKit Go.Deep Go.Sort Go.Lib
set_option maxRecDepth 100000

theorem rk_at (o : Nat) (x : Int × Int × Int) (j : Nat) (hj : j < 3) : [(rkey o x).1, (rkey o x).2.1, (rkey o x).2.2][j]? = some (rk o j x) := by
  have h : j = 0 ∨ j = 1 ∨ j = 2 := by omega
  rcases h with rfl | rfl | rfl <;> simp [rk]
/-- A row begins with the keys, key by key. -/
theorem kcmp_rk {o : Nat} {ks : List Int} (hk : ks.length ≤ 3) (x : Int × Int × Int) : kcmp o ks x = 0 ↔ ∀ j, j < ks.length → rk o j x = ks[j]?.getD 0 := by
  rw [kcmp_eq hk]
  constructor
  · intro h j hj
    have e : ([(rkey o x).1, (rkey o x).2.1, (rkey o x).2.2].take ks.length)[j]? = some (rk o j x) := by
      rw [List.getElem?_take_of_lt hj]
      exact rk_at o x j (by omega)
    rw [h] at e
    rw [e]
    rfl
  · intro h
    apply List.ext_getElem?
    intro j
    by_cases hj : j < ks.length
    · rw [List.getElem?_take_of_lt hj, rk_at o x j (by omega), h j hj, List.getElem?_eq_getElem hj]
      rfl
    · rw [List.getElem?_eq_none (by simp; omega), List.getElem?_eq_none (by omega)]
theorem scanL_step {o : Nat} {ks : List Int} {l : List (Int × Int × Int)} {j : Nat} {x : Int × Int × Int} (hx : l[j]? = some x) : scanL o ks (l.take (j + 1)) = scanL o ks (l.take j) ++ if kcmp o ks x = 0 then [x] else [] := by
  obtain ⟨hj, rfl⟩ := List.getElem?_eq_some_iff.1 hx
  rw [List.take_add_one, List.getElem?_eq_getElem hj]
  simp only [scanL, Option.toList_some, List.filter_append]
  by_cases h : kcmp o ks l[j] = 0
  · simp [h]
  · simp [h]

set_option maxHeartbeats 8000000 in
theorem l3scan_any (p o : Nat) (aR : Option Addr) (capR : Nat) (rbs : List RB) (x : RB) (pk : Option Addr) (capK : Nat) (ks : List Int) (w : World) (ho : o < 6) (hx : rbs[o]? = some x) (hl : x.l.length ≤ 1048576) (hk : ks.length ≤ 3)
    (hp : p < w.heap.size) (hp1 : w.cell? ⟨p, 1, none⟩ = some (.slice aR rbs.length capR)) (hS : SRow w aR rbs) (hR : RRow w x.a x.l) (hI : ks.length = 0 ∨ ∃ b off, pk = some ⟨b, off, none⟩ ∧ b < w.heap.size ∧ Ints w b off ks) :
    Calls Tryz.prog 61 #[.pointer (some ⟨p, 0, none⟩), .int .i64 o, .slice pk ks.length capK] w (ScanRes w (scanL o ks x.l)) := by
  obtain ⟨hoR, _⟩ := List.getElem?_eq_some_iff.1 hx
  obtain ⟨bR, oR, rfl, hbR, hcR⟩ := hS.resolve_left (fun e => by rw [e] at hoR; simp at hoR)
  have hrow := hcR o x hx
  have HP : Hid (∀ W, Below w.heap.size w W → W.cell? ⟨p, 1, none⟩ = some (.slice (some ⟨bR, oR, none⟩) rbs.length capR) ∧ W.cell? ⟨bR, oR + o, none⟩ = some (.slice x.a x.l.length x.cap)) := fun W hW => ⟨(hW.cell (p := ⟨p, 1, none⟩) hp).trans hp1, (hW.cell (p := ⟨bR, oR + o, none⟩) hbR).trans hrow⟩
  have HRW : Hid (∀ W, Below w.heap.size w W → ∀ i y, x.l[i]? = some y → ∃ b off, x.a = some ⟨b, off, none⟩ ∧ W.cell? ⟨b, off + i * 3, none⟩ = some (.int .i64 y.1) ∧ W.cell? ⟨b, off + i * 3 + 1, none⟩ = some (.int .i64 y.2.1) ∧ W.cell? ⟨b, off + i * 3 + 2, none⟩ = some (.int .i64 y.2.2)) := fun W hW i y hy => by
    obtain ⟨b, off, e, hb, e0, e1, e2⟩ := (hR.below hW).at3 hy
    exact ⟨b, off, e, e0, e1, e2⟩
  have HKY : Hid (∀ W, Below w.heap.size w W → ∀ j, j < ks.length → ∃ b off, pk = some ⟨b, off, none⟩ ∧ W.cell? ⟨b, off + j, none⟩ = some (.int .i64 (ks[j]?.getD 0))) := fun W hW j hj => by
    rcases hI with e | ⟨b, off, e, hb, hc⟩
    · omega
    · exact ⟨b, off, e, (hW.cell (p := ⟨b, off + j, none⟩) hb).trans (hc j hj)⟩
  have HKR : Hid (∀ y, kcmp o ks y = 0 ↔ ∀ j, j < ks.length → rk o j y = ks[j]?.getD 0) := fun y => kcmp_rk hk y
  obtain ⟨n, hn⟩ : ∃ n, n = x.l.length := ⟨_, rfl⟩
  have HN : Hid (n = x.l.length) := hn
  obtain ⟨k, hk'⟩ : ∃ k, k = ks.length := ⟨_, rfl⟩
  have HK : Hid (k = ks.length) := hk'
  obtain ⟨m, hm⟩ : ∃ m, m = rbs.length := ⟨_, rfl⟩
  rw [← hn] at hl HP
  rw [← hk'] at hk HKY HKR ⊢
  rw [← hm] at hoR HP
  have hoz : (o : Int) < (m : Int) := by omega
  clear hn hk' hm hS hR hI hcR hrow hx hp1 hp hbR
  go_enter Tryz.func61, Tryz.ntmps61
  go_wp2_with fail
  go_loopw [7, 8] (fun a b wr => ∃ (j : Nat) (v : Value), j ≤ n ∧ b = .int .i64 j ∧ a = v ∧ Hid (OwnRR wr w.heap.size v (scanL o ks (x.l.take j))) ∧ Hid (Below w.heap.size w wr))
    (fun _ b _ => n - (intOf b).toNat)
  case atStart => exact ⟨0, _, Nat.zero_le _, rfl, rfl, by rw [List.take_zero]; exact OwnRR.nil _ _, Below.refl _ _⟩
  case round =>
    obtain ⟨j, v, hj, rfl, hv, HO, HB⟩ := hrel
    obtain ⟨a', c', rfl, _⟩ := HO.out.form
    subst hv
    obtain ⟨wo, hwo⟩ : ∃ wo, wo = wr := ⟨_, rfl⟩
    subst hwo
    obtain ⟨c0, c1⟩ := HP.out _ HB.out
    by_cases hlt : j < n
    · obtain ⟨y, hy⟩ : ∃ y, x.l[j]? = some y := ⟨_, List.getElem?_eq_getElem (by rw [← HN.out]; exact hlt)⟩
      have HY : Hid (x.l[j]? = some y) := hy
      obtain ⟨b, off, ea, e0, e1, e2⟩ := HRW.out _ HB.out j y hy
      rw [ea] at c1
      have hjz : (j : Int) < (n : Int) := by omega
      clear hy
      go_wp2_with fail
      obtain ⟨wi, hwi⟩ : ∃ wi, wi = wo.alloc (.cells #[.int .i64 y.1, .int .i64 y.2.1, .int .i64 y.2.2] 99) := ⟨_, rfl⟩
      have hbx : wi.cell? ⟨wo.heap.size, 0, none⟩ = some (.int .i64 y.1) ∧ wi.cell? ⟨wo.heap.size, 1, none⟩ = some (.int .i64 y.2.1) ∧ wi.cell? ⟨wo.heap.size, 2, none⟩ = some (.int .i64 y.2.2) ∧ wo.heap.size < wi.heap.size := by
        rw [hwi]
        refine ⟨?_, ?_, ?_, by simp⟩ <;> simp [go_sem]
      have HBX : Hid (wi.cell? ⟨wo.heap.size, 0, none⟩ = some (.int .i64 y.1) ∧ wi.cell? ⟨wo.heap.size, 1, none⟩ = some (.int .i64 y.2.1) ∧ wi.cell? ⟨wo.heap.size, 2, none⟩ = some (.int .i64 y.2.2) ∧ wo.heap.size < wi.heap.size) := hbx
      have HBI : Hid (Below wo.heap.size wo wi) := by rw [hwi]; exact bl_a _
      have HBW : Hid (Below w.heap.size w wi) := bl_trans HB.out HBI.out
      rw [← hwi]
      clear hbx hwi e0 e1 e2 c0 c1 ea
      go_loopw [10, 11] (fun a b wr => ∃ (t : Nat) (q : Bool), t ≤ k ∧ b = .int .i64 t ∧ a = .bool q ∧ Hid (q = true ↔ ∀ i, i < t → rk o i y = ks[i]?.getD 0) ∧ Hid (Below wi.heap.size wi wr))
        (fun _ b _ => k - (intOf b).toNat)
      case atStart => exact ⟨0, true, Nat.zero_le _, rfl, rfl, (show (true = true ↔ _) from ⟨fun _ i hi => absurd hi (Nat.not_lt_zero _), fun _ => rfl⟩), Below.refl _ _⟩
      case round =>
        obtain ⟨t, q, ht, rfl, rfl, HQ, HW⟩ := hrel
        by_cases htk : t < k
        · have htz : (t : Int) < (k : Int) := by omega
          have ht3 : t < 3 := by omega
          obtain ⟨bk, ok, rfl, _⟩ := HKY.out _ HBW.out t htk
          have d0 := fun d os => ((bl_trans HW.out (bl_regrown (w := wr) d os)).cell (p := ⟨wo.heap.size, 0, none⟩) HBX.out.2.2.2).trans HBX.out.1
          have d1 := fun d os => ((bl_trans HW.out (bl_regrown (w := wr) d os)).cell (p := ⟨wo.heap.size, 1, none⟩) HBX.out.2.2.2).trans HBX.out.2.1
          have d2 := fun d os => ((bl_trans HW.out (bl_regrown (w := wr) d os)).cell (p := ⟨wo.heap.size, 2, none⟩) HBX.out.2.2.2).trans HBX.out.2.2.1
          have dk : ∀ d os, (Go.Sort.grow (redrawn wr d) os).cell? ⟨bk, ok + t, none⟩ = some (.int .i64 (ks[t]?.getD 0)) := fun d os => by
            obtain ⟨b', o', e, hc⟩ := HKY.out _ (bl_trans HBW.out (bl_trans HW.out (bl_regrown (w := wr) d os))) t htk
            cases e
            exact hc
          have C := fun d os => Calls.regrown_of (l3key_any y.1 y.2.1 y.2.2 o t (Go.Sort.grow (redrawn wr d) os) ho ht3)
          obtain ⟨r, hr⟩ : ∃ r, r = rk o t (y.1, y.2.1, y.2.2) := ⟨_, rfl⟩
          obtain ⟨kt, hkt⟩ : ∃ kt, kt = ks[t]?.getD 0 := ⟨_, rfl⟩
          have HRK : Hid (decide (r = kt) = true ↔ rk o t y = ks[t]?.getD 0) := by
            show (_ ↔ _)
            rw [hr, hkt]
            simp
          rw [← hr] at C
          rw [← hkt] at dk
          clear hr hkt
          cases q
          · go_wp2_with fail
            refine wp_region_held_drew (S := fun w' => Below wr.heap.size wr w') (by kernel_rfl) ?_ (fun hHeld => ?_)
            · exact Below.drew (Below.refl _ _)
            refine take_at (i := 0) 40 (v := ?v1) rfl rfl (by kernel_rfl) (by kernel_rfl) (by kernel_rfl) (fun _ _ _ h => h) (Or.inl ⟨by rfl, ?y1⟩) hHeld ?r1
            case y1 => (intro w' hSw; skip; go_simp; (try with_reducible rfl))
            try simp only [Act.put, List.setIfInBounds_toArray, List.set_cons_zero, List.set_cons_succ]
            refine take_at (i := 1) 41 (v := ?v2) rfl rfl (by kernel_rfl) (by kernel_rfl) (by kernel_rfl) (fun _ _ _ h => h) (Or.inl ⟨by rfl, ?y2⟩) hHeld ?r2
            case y2 => (intro w' hSw; skip; go_simp; (try with_reducible rfl))
            try simp only [Act.put, List.setIfInBounds_toArray, List.set_cons_zero, List.set_cons_succ]
            refine take_at (i := 2) 42 (v := undef) rfl rfl (by kernel_rfl) (by kernel_rfl) (by kernel_rfl) (fun _ _ _ h => h) (Or.inr ⟨by rfl, rfl⟩) hHeld ?_
            try simp only [Act.put, List.setIfInBounds_toArray, List.set_cons_zero, List.set_cons_succ]
            refine take_at (i := 3) 43 (v := undef) rfl rfl (by kernel_rfl) (by kernel_rfl) (by kernel_rfl) (fun _ _ _ h => h) (Or.inr ⟨by rfl, rfl⟩) hHeld ?_
            try simp only [Act.put, List.setIfInBounds_toArray, List.set_cons_zero, List.set_cons_succ]
            refine take_at (i := 4) 44 (v := undef) rfl rfl (by kernel_rfl) (by kernel_rfl) (by kernel_rfl) (fun _ _ _ h => h) (Or.inr ⟨by rfl, rfl⟩) hHeld ?_
            try simp only [Act.put, List.setIfInBounds_toArray, List.set_cons_zero, List.set_cons_succ]
            refine take_at (i := 5) 45 (v := undef) rfl rfl (by kernel_rfl) (by kernel_rfl) (by kernel_rfl) (fun _ _ _ h => h) (Or.inr ⟨by rfl, rfl⟩) hHeld ?_
            try simp only [Act.put, List.setIfInBounds_toArray, List.set_cons_zero, List.set_cons_succ]
            refine take_at (i := 6) 46 (v := undef) rfl rfl (by kernel_rfl) (by kernel_rfl) (by kernel_rfl) (fun _ _ _ h => h) (Or.inr ⟨by rfl, rfl⟩) hHeld ?_
            try simp only [Act.put, List.setIfInBounds_toArray, List.set_cons_zero, List.set_cons_succ]
            refine take_at (i := 7) 47 (v := undef) rfl rfl (by kernel_rfl) (by kernel_rfl) (by kernel_rfl) (fun _ _ _ h => h) (Or.inr ⟨by rfl, rfl⟩) hHeld ?_
            try simp only [Act.put, List.setIfInBounds_toArray, List.set_cons_zero, List.set_cons_succ]
            refine take_at (i := 8) 48 (v := undef) rfl rfl (by kernel_rfl) (by kernel_rfl) (by kernel_rfl) (fun _ _ _ h => h) (Or.inr ⟨by rfl, rfl⟩) hHeld ?_
            try simp only [Act.put, List.setIfInBounds_toArray, List.set_cons_zero, List.set_cons_succ]
            refine take_at (i := 9) 49 (v := undef) rfl rfl (by kernel_rfl) (by kernel_rfl) (by kernel_rfl) (fun _ _ _ h => h) (Or.inr ⟨by rfl, rfl⟩) hHeld ?_
            try simp only [Act.put, List.setIfInBounds_toArray, List.set_cons_zero, List.set_cons_succ]
            refine take_at (i := 10) 50 (v := undef) rfl rfl (by kernel_rfl) (by kernel_rfl) (by kernel_rfl) (fun _ _ _ h => h) (Or.inr ⟨by rfl, rfl⟩) hHeld ?_
            try simp only [Act.put, List.setIfInBounds_toArray, List.set_cons_zero, List.set_cons_succ]
            refine take_at (i := 11) 51 (v := ?v3) rfl rfl (by kernel_rfl) (by kernel_rfl) (by kernel_rfl) (fun _ _ _ h => h) (Or.inl ⟨by rfl, ?y3⟩) hHeld ?r3
            case y3 => (intro w' hSw; skip; go_simp; (try with_reducible rfl))
            try simp only [Act.put, List.setIfInBounds_toArray, List.set_cons_zero, List.set_cons_succ]
            refine take_at (i := 12) 10 (v := ?v4) rfl rfl (by kernel_rfl) (by kernel_rfl) (by kernel_rfl) (fun _ _ _ h => h) (Or.inl ⟨by rfl, ?y4⟩) hHeld ?r4
            case y4 => (intro w' hSw; skip; go_simp; (try with_reducible rfl))
            try simp only [Act.put, List.setIfInBounds_toArray, List.set_cons_zero, List.set_cons_succ]
            refine wpAnyH_done (by kernel_rfl) ?_ _
            have HW2 : Hid (Below wi.heap.size wi wr.drew) := Below.drew HW.out
            clear hHeld
            generalize wr.drew = wz at *
            go_wp2_with fail
            go_roundw
            case rel =>
              refine ⟨t + 1, false, by omega, by go_num, rfl, (show (false = true ↔ _) from ⟨fun h => (by cases h), fun h => ?_⟩), HW2⟩
              exact HQ.out.2 (fun i hi => h i (by omega))
            case measure => simp [intOf]; omega
          · go_wp2_with fail
            refine wp_region_quiet_below (by kernel_rfl) (by kernel_rfl) ?_
            quiet_step (fail)
            quiet_step (fail)
            quiet_step (fail)
            quiet_step (fail)
            quiet_step (fail)
            quiet_step (exact C _ _)
            quiet_step (fail)
            quiet_step (fail)
            quiet_step (fail)
            quiet_step (fail)
            quiet_step (fail)
            quiet_step (fail)
            quiet_step (fail)
            refine wpQuiet_nil ?_
            intro _ hw'
            obtain ⟨⟨dq, osq⟩, hw''⟩ := hw'
            subst hw''
            go_wp2_with fail
            go_roundw
            case rel =>
              refine ⟨t + 1, decide (r = kt), by omega, by go_num, by first | rfl | simp, (show (decide (r = kt) = true ↔ _) from ⟨fun h i hi => ?_, fun h => HRK.out.2 (h t (by omega))⟩), bl_trans HW.out (bl_regrown (w := wr) dq osq)⟩
              by_cases e : i = t
              · subst e
                exact HRK.out.1 h
              · exact HQ.out.1 (by simp) i (by omega)
            case measure => simp [intOf]; omega
        · obtain rfl : t = k := by omega
          have HO2 : Hid (OwnRR wr w.heap.size (.slice a' (scanL o ks (x.l.take j)).length c') (scanL o ks (x.l.take j))) := HO.out.below (bl_trans HBI.out HW.out)
          have HB2 : Hid (Below w.heap.size w wr) := bl_trans HBW.out HW.out
          have hws : w.heap.size ≤ wr.heap.size := HB2.out.size
          have HLT : Hid ((scanL o ks (x.l.take j)).length ≤ 1048576) := by
            show _ ≤ _
            have h1 : (scanL o ks (x.l.take j)).length ≤ (x.l.take j).length := List.length_filter_le _ _
            rw [List.length_take] at h1
            omega
          have g0 := (HW.out.cell (p := ⟨wo.heap.size, 0, none⟩) HBX.out.2.2.2).trans HBX.out.1
          have g1 := (HW.out.cell (p := ⟨wo.heap.size, 1, none⟩) HBX.out.2.2.2).trans HBX.out.2.1
          have g2 := (HW.out.cell (p := ⟨wo.heap.size, 2, none⟩) HBX.out.2.2.2).trans HBX.out.2.2.1
          have HST : Hid (scanL o ks (x.l.take (j + 1)) = scanL o ks (x.l.take j) ++ if kcmp o ks y = 0 then [y] else []) := scanL_step HY.out
          cases q
          · have HNO : Hid (¬ kcmp o ks y = 0) := fun e => by
              have := HQ.out.2 ((HKR.out y).1 e)
              cases this
            go_wp2_with fail
            go_roundw
            case rel =>
              refine ⟨j + 1, _, by omega, by go_num, rfl, ?_, HB2⟩
              show OwnRR _ _ _ _
              rw [HST.out, if_neg HNO.out, List.append_nil]
              exact HO2.out
            case measure => simp [intOf]; omega
          · have HYE : Hid (kcmp o ks y = 0) := (HKR.out y).2 (HQ.out.1 (by simp))
            have HOA : Hid (OwnRR (wr.alloc (.cells #[.int .i64 y.1, .int .i64 y.2.1, .int .i64 y.2.2] 99)) w.heap.size (.slice a' (scanL o ks (x.l.take j)).length c') (scanL o ks (x.l.take j))) := HO2.out.below (bl_a _)
            have HNA : Hid (∀ j u, (encR y)[j]? = some u → (wr.alloc (.cells #[.int .i64 y.1, .int .i64 y.2.1, .int .i64 y.2.2] 99)).cell? ((⟨wr.heap.size, 0, none⟩ : Addr).add j) = some u) := fun j u hu => World.news_of_block (Go.heap_alloc_new _ _) j u (by simpa [encR] using hu)
            have hsA : w.heap.size ≤ (wr.alloc (.cells #[.int .i64 y.1, .int .i64 y.2.1, .int .i64 y.2.2] 99)).heap.size := by simp; omega
            have hLT := HLT.out
            go_wp2_with (refine appR rfl (.tmp 53) (.tmp 55) rfl w.heap.size (.slice a' (scanL o ks (x.l.take j)).length c') (scanL o ks (x.l.take j)) rfl HOA ⟨wr.heap.size, 0, none⟩ 1 y rfl HNA ((scanL o ks (x.l.take j)).length + 1) rfl (by omega) hsA ?_; intro g3 c3 w3 HR3 _ _ HB3)
            go_roundw
            case rel =>
              refine ⟨j + 1, _, by omega, by go_num, rfl, ?_, (bl_alloc HB2.out _).trans HB3.out⟩
              show OwnRR _ _ _ _
              rw [HST.out, if_pos HYE.out]
              exact HR3.out
            case measure => simp [intOf]; omega
    · obtain rfl : j = n := by omega
      go_wp2_with fail
      go_ret
      have e : scanL o ks (x.l.take j) = scanL o ks x.l := by rw [HN.out, List.take_length]
      have h := HO.out
      rw [e] at h
      exact ⟨a', c', by rw [← e]; rfl, h, HB.out⟩
end Go.Proofs.YtdcaicoomldmgaaGreatDoor
