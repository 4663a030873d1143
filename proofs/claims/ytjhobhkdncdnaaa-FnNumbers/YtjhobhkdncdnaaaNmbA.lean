/- Reckoning with two numbers that may be: what each call of the law FnNumbers answers. -/
import Derived.Test.YtjhobhkdncdnaaaAriA
import Derived.Test.YtjhobhkdncdnaaaDrwF
import Derived.Test.YtjhobhkdncdnaaaTrmA
import Derived.Test.YtjhobhkdncdnaaaCalE
namespace Go.Proofs.Ytjhobhkdncdnaaa
open Go.RowKit Go.Deep

theorem Calc_tq (op : Int) (t u : Tq) (w w0 w1 : World) (ht : t.at w0) (hu : u.at w1) (h : Bs w t.a t.len t.bs) (h' : Bs w u.a u.len u.bs) :
    Calls Try.prog 10 #[.int .i64 op, .agg #[.int .i64 t.k, .slice t.a t.len t.cap, .int .i64 t.n, .int .i64 t.s], .agg #[.int .i64 u.k, .slice u.a u.len u.cap, .int .i64 u.n, .int .i64 u.s]] w fun e w' => e = .returned (resV (calcQ op t.k t.bs t.n t.s u.k u.bs u.n u.s)) ∧ Below w.heap.size w w' :=
  implCalc_any op t.k t.n t.s u.k u.n u.s t.a u.a t.len t.cap u.len u.cap t.bs u.bs w h h' ht.1.1 ht.1.2 ht.2.1.1 ht.2.1.2 hu.1.1 hu.1.2 hu.2.1.1 hu.2.1.2
theorem nil_bs (w : World) : Bs w none 0 [] := ⟨rfl, by omega, by simp, .inl rfl⟩
/-- A number's parts as a term. -/
def numT (n s : Int) : Tq := ⟨3, none, 0, 0, [], n, s⟩
theorem resV_ok {p : Int × Int} (h : numOk p.1 p.2 = true) : resV p = .tuple #[.agg #[.int .i64 3, .slice none 0 0, .int .i64 p.1, .int .i64 p.2], .bool true] := by
  unfold resV tK tN tS
  rw [h]
  rfl

structure NF (t u : Tq) (s1 s2 s3 : Int) (s4 : Bool) (p1 p2 p3 : Int) (p4 : Bool) (q1 q2 q3 : Int) (q4 : Bool) (m1 m2 m3 : Int) (m4 : Bool) (c : Int) : Prop where
  add : ∀ w : World, Bs w t.a t.len t.bs → Bs w u.a u.len u.bs → Calls Try.prog 10 #[.int .i64 0, .agg #[.int .i64 t.k, .slice t.a t.len t.cap, .int .i64 t.n, .int .i64 t.s], .agg #[.int .i64 u.k, .slice u.a u.len u.cap, .int .i64 u.n, .int .i64 u.s]] w fun e w' => e = .returned (.tuple #[.agg #[.int .i64 s1, .slice none 0 0, .int .i64 s2, .int .i64 s3], .bool s4]) ∧ Below w.heap.size w w'
  add' : ∀ w : World, Bs w t.a t.len t.bs → Bs w u.a u.len u.bs → Calls Try.prog 10 #[.int .i64 0, .agg #[.int .i64 u.k, .slice u.a u.len u.cap, .int .i64 u.n, .int .i64 u.s], .agg #[.int .i64 t.k, .slice t.a t.len t.cap, .int .i64 t.n, .int .i64 t.s]] w fun e w' => e = .returned (.tuple #[.agg #[.int .i64 s1, .slice none 0 0, .int .i64 s2, .int .i64 s3], .bool s4]) ∧ Below w.heap.size w w'
  mul : ∀ w : World, Bs w t.a t.len t.bs → Bs w u.a u.len u.bs → Calls Try.prog 10 #[.int .i64 2, .agg #[.int .i64 t.k, .slice t.a t.len t.cap, .int .i64 t.n, .int .i64 t.s], .agg #[.int .i64 u.k, .slice u.a u.len u.cap, .int .i64 u.n, .int .i64 u.s]] w fun e w' => e = .returned (.tuple #[.agg #[.int .i64 p1, .slice none 0 0, .int .i64 p2, .int .i64 p3], .bool p4]) ∧ Below w.heap.size w w'
  mul' : ∀ w : World, Bs w t.a t.len t.bs → Bs w u.a u.len u.bs → Calls Try.prog 10 #[.int .i64 2, .agg #[.int .i64 u.k, .slice u.a u.len u.cap, .int .i64 u.n, .int .i64 u.s], .agg #[.int .i64 t.k, .slice t.a t.len t.cap, .int .i64 t.n, .int .i64 t.s]] w fun e w' => e = .returned (.tuple #[.agg #[.int .i64 p1, .slice none 0 0, .int .i64 p2, .int .i64 p3], .bool p4]) ∧ Below w.heap.size w w'
  sub : s4 = true → ∀ w : World, Bs w t.a t.len t.bs → Bs w u.a u.len u.bs → Calls Try.prog 10 #[.int .i64 1, .agg #[.int .i64 s1, .slice none 0 0, .int .i64 s2, .int .i64 s3], .agg #[.int .i64 u.k, .slice u.a u.len u.cap, .int .i64 u.n, .int .i64 u.s]] w fun e w' => e = .returned (.tuple #[.agg #[.int .i64 3, .slice none 0 0, .int .i64 t.n, .int .i64 t.s], .bool true]) ∧ Below w.heap.size w w'
  okS : s4 = true → ∀ w : World, Calls Try.prog 12 #[.agg #[.int .i64 s1, .slice none 0 0, .int .i64 s2, .int .i64 s3]] w fun e w' => e = .returned (.bool true) ∧ Below w.heap.size w w'
  dz : ∀ w : World, Bs w t.a t.len t.bs → Bs w u.a u.len u.bs → Calls Try.prog 10 #[.int .i64 3, .agg #[.int .i64 t.k, .slice t.a t.len t.cap, .int .i64 t.n, .int .i64 t.s], .agg #[.int .i64 3, .slice none 0 0, .int .i64 0, .int .i64 0]] w fun e w' => e = .returned (.tuple #[.agg #[.int .i64 0, .slice none 0 0, .int .i64 0, .int .i64 0], .bool false]) ∧ Below w.heap.size w w'
  div : ∀ w : World, Bs w t.a t.len t.bs → Bs w u.a u.len u.bs → Calls Try.prog 10 #[.int .i64 3, .agg #[.int .i64 t.k, .slice t.a t.len t.cap, .int .i64 t.n, .int .i64 t.s], .agg #[.int .i64 u.k, .slice u.a u.len u.cap, .int .i64 u.n, .int .i64 u.s]] w fun e w' => e = .returned (.tuple #[.agg #[.int .i64 q1, .slice none 0 0, .int .i64 q2, .int .i64 q3], .bool q4]) ∧ Below w.heap.size w w'
  qpos : q4 = true → 0 ≤ t.n → 1 ≤ u.n → 0 ≤ q2
  mq : q4 = true → 0 ≤ t.n → 1 ≤ u.n → ∀ w : World, Bs w t.a t.len t.bs → Bs w u.a u.len u.bs → Calls Try.prog 10 #[.int .i64 2, .agg #[.int .i64 q1, .slice none 0 0, .int .i64 q2, .int .i64 q3], .agg #[.int .i64 u.k, .slice u.a u.len u.cap, .int .i64 u.n, .int .i64 u.s]] w fun e w' => e = .returned (.tuple #[.agg #[.int .i64 m1, .slice none 0 0, .int .i64 m2, .int .i64 m3], .bool m4]) ∧ Below w.heap.size w w'
  cle : q4 = true → 0 ≤ t.n → 1 ≤ u.n → m4 = true → c ≤ 0
  cmp : m4 = true → ∀ w : World, Bs w t.a t.len t.bs → Bs w u.a u.len u.bs → Calls Try.prog 7 #[.agg #[.int .i64 m1, .slice none 0 0, .int .i64 m2, .int .i64 m3], .agg #[.int .i64 t.k, .slice t.a t.len t.cap, .int .i64 t.n, .int .i64 t.s]] w fun e w' => e = .returned (.int .i64 c) ∧ Below w.heap.size w w'
  same : ∀ (x1 x2 x3 : Int) (w : World), Calls Try.prog 9 #[.agg #[.int .i64 x1, .slice none 0 0, .int .i64 x2, .int .i64 x3], .agg #[.int .i64 x1, .slice none 0 0, .int .i64 x2, .int .i64 x3]] w fun e w' => e = .returned (.bool true) ∧ Below w.heap.size w w'
  sameT : ∀ w : World, Bs w t.a t.len t.bs → Bs w u.a u.len u.bs → Calls Try.prog 9 #[.agg #[.int .i64 3, .slice none 0 0, .int .i64 t.n, .int .i64 t.s], .agg #[.int .i64 t.k, .slice t.a t.len t.cap, .int .i64 t.n, .int .i64 t.s]] w fun e w' => e = .returned (.bool true) ∧ Below w.heap.size w w'
  okT : ∀ w : World, Bs w t.a t.len t.bs → Bs w u.a u.len u.bs → Calls Try.prog 8 #[.agg #[.int .i64 t.k, .slice t.a t.len t.cap, .int .i64 t.n, .int .i64 t.s]] w fun e w' => e = .returned (.bool true) ∧ Below w.heap.size w w'
  okU : ∀ w : World, Bs w t.a t.len t.bs → Bs w u.a u.len u.bs → Calls Try.prog 8 #[.agg #[.int .i64 u.k, .slice u.a u.len u.cap, .int .i64 u.n, .int .i64 u.s]] w fun e w' => e = .returned (.bool true) ∧ Below w.heap.size w w'
  kt : t.k = 3
  ku : u.k = 3

theorem NF.make (t u : Tq) (w0 w1 : World) (ht : t.at w0) (hu : u.at w1) (h1 : isNum t.k t.bs t.n t.s = true) (h2 : isNum u.k u.bs u.n u.s = true) : ∃ (s1 s2 s3 : Int) (s4 : Bool) (p1 p2 p3 : Int) (p4 : Bool) (q1 q2 q3 : Int) (q4 : Bool) (m1 m2 m3 : Int) (m4 : Bool) (c : Int), NF t u s1 s2 s3 s4 p1 p2 p3 p4 q1 q2 q3 q4 m1 m2 m3 m4 c := by
  obtain ⟨kt, ot, a1, a2, a3, a4⟩ := isNum_bounds h1
  obtain ⟨ku, ou, c1, c2, c3, c4⟩ := isNum_bounds h2
  have nt : numOk t.n t.s = true := by simp [termOk] at ot; exact ot.2
  have nu : numOk u.n u.s = true := by simp [termOk] at ou; exact ou.2
  have bt : t.bs = [] := by simp [termOk] at ot; exact ot.1
  obtain ⟨x, hx⟩ : ∃ x : Nat, t.s = x := ⟨t.s.toNat, by omega⟩
  obtain ⟨y, hy⟩ : ∃ y : Nat, u.s = y := ⟨u.s.toNat, by omega⟩
  have nt' : numOk t.n (x : Int) = true := by rw [← hx]; exact nt
  have nu' : numOk u.n (y : Int) = true := by rw [← hy]; exact nu
  have q1 : ∀ op, calcQ op t.k t.bs t.n t.s u.k u.bs u.n u.s = calcP op t.n x u.n y := by
    intro op
    unfold calcQ
    rw [h1, h2, hx, hy]
    simp
  have q2 : ∀ op, calcQ op u.k u.bs u.n u.s t.k t.bs t.n t.s = calcP op u.n y t.n x := by
    intro op
    unfold calcQ
    rw [h1, h2, hx, hy]
    simp
  have isN : ∀ p : Int × Int, numOk p.1 p.2 = true → isNum 3 [] p.1 p.2 = true := by
    intro p hp
    simp [isNum, termOk, hp]
  have atN : ∀ (p : Int × Int) (w : World), numOk p.1 p.2 = true → (numT p.1 p.2).at w := by
    intro p w hp
    have := numOk_out hp
    exact ⟨⟨by show -9223372036854775808 ≤ p.1; omega, by show p.1 ≤ _; omega⟩, ⟨by show -9223372036854775808 ≤ p.2; omega, by show p.2 ≤ _; omega⟩, nil_bs w⟩
  have q3 : ∀ (op : Int) (p : Int × Int), numOk p.1 p.2 = true → calcQ op 3 [] p.1 p.2 u.k u.bs u.n u.s = calcP op p.1 p.2.toNat u.n y := by
    intro op p hp
    unfold calcQ
    rw [isN p hp, h2, hy]
    simp
  refine ⟨tK (calcP 0 t.n x u.n y), tN (calcP 0 t.n x u.n y), tS (calcP 0 t.n x u.n y), numOk (calcP 0 t.n x u.n y).1 (calcP 0 t.n x u.n y).2, tK (calcP 2 t.n x u.n y), tN (calcP 2 t.n x u.n y), tS (calcP 2 t.n x u.n y), numOk (calcP 2 t.n x u.n y).1 (calcP 2 t.n x u.n y).2,
    tK (calcP 3 t.n x u.n y), tN (calcP 3 t.n x u.n y), tS (calcP 3 t.n x u.n y), numOk (calcP 3 t.n x u.n y).1 (calcP 3 t.n x u.n y).2,
    tK (calcP 2 (calcP 3 t.n x u.n y).1 (calcP 3 t.n x u.n y).2.toNat u.n y), tN (calcP 2 (calcP 3 t.n x u.n y).1 (calcP 3 t.n x u.n y).2.toNat u.n y), tS (calcP 2 (calcP 3 t.n x u.n y).1 (calcP 3 t.n x u.n y).2.toNat u.n y), numOk (calcP 2 (calcP 3 t.n x u.n y).1 (calcP 3 t.n x u.n y).2.toNat u.n y).1 (calcP 2 (calcP 3 t.n x u.n y).1 (calcP 3 t.n x u.n y).2.toNat u.n y).2,
    (numT (calcP 2 (calcP 3 t.n x u.n y).1 (calcP 3 t.n x u.n y).2.toNat u.n y).1 (calcP 2 (calcP 3 t.n x u.n y).1 (calcP 3 t.n x u.n y).2.toNat u.n y).2).td.cT t.td, ?_⟩
  constructor
  case add =>
    intro w b1 b2
    have h := Calc_tq 0 t u w w0 w1 ht hu b1 b2
    rw [q1] at h
    exact h
  case add' =>
    intro w b1 b2
    have h := Calc_tq 0 u t w w1 w0 hu ht b2 b1
    rw [q2, add_comm'] at h
    exact h
  case mul =>
    intro w b1 b2
    have h := Calc_tq 2 t u w w0 w1 ht hu b1 b2
    rw [q1] at h
    exact h
  case mul' =>
    intro w b1 b2
    have h := Calc_tq 2 u t w w1 w0 hu ht b2 b1
    rw [q2, mul_comm'] at h
    exact h
  case sub =>
    intro ok w b1 b2
    have h := Calc_tq 1 (numT (calcP 0 t.n x u.n y).1 (calcP 0 t.n x u.n y).2) u w w w1 (atN _ _ ok) hu (nil_bs w) b2
    have e : calcQ 1 (numT (calcP 0 t.n x u.n y).1 (calcP 0 t.n x u.n y).2).k (numT (calcP 0 t.n x u.n y).1 (calcP 0 t.n x u.n y).2).bs (numT (calcP 0 t.n x u.n y).1 (calcP 0 t.n x u.n y).2).n (numT (calcP 0 t.n x u.n y).1 (calcP 0 t.n x u.n y).2).s u.k u.bs u.n u.s = (t.n, t.s) := by
      have := q3 1 (calcP 0 t.n x u.n y) ok
      rw [sub_back t.n u.n x y nt' nu' ok, ← hx] at this
      exact this
    rw [e, resV_ok (p := (t.n, t.s)) nt] at h
    simp only [tK, tN, tS, ok, if_true]
    exact h
  case okS =>
    intro ok w
    have h := implTermOk_any 3 (calcP 0 t.n x u.n y).1 (calcP 0 t.n x u.n y).2 none 0 0 [] w (nil_bs w) (atN _ w ok).1.1 (atN _ w ok).1.2 (atN _ w ok).2.1.1 (atN _ w ok).2.1.2
    have e : termOk 3 [] (calcP 0 t.n x u.n y).1 (calcP 0 t.n x u.n y).2 = true := by simp [termOk, ok]
    rw [e] at h
    simp only [tK, tN, tS, ok, if_true]
    exact h
  case dz =>
    intro w b1 b2
    have h := Calc_tq 3 t (numT 0 0) w w0 w ht (atN (0, 0) w (by decide)) b1 (nil_bs w)
    have e : calcQ 3 t.k t.bs t.n t.s (numT 0 0).k (numT 0 0).bs (numT 0 0).n (numT 0 0).s = (0, 7) := by
      unfold calcQ
      rw [h1, show isNum (numT 0 0).k (numT 0 0).bs (numT 0 0).n (numT 0 0).s = true from isN (0, 0) (by decide)]
      exact div_zero t.n t.s.toNat
    rw [e, resV_none] at h
    exact h
  case div =>
    intro w b1 b2
    have h := Calc_tq 3 t u w w0 w1 ht hu b1 b2
    rw [q1] at h
    exact h
  case qpos =>
    intro ok n0 m1
    have := (quot_back t.n u.n x y nt' nu' n0 m1 ok).1
    simp only [tN, ok, if_true]
    exact this
  case mq =>
    intro ok n0 m1 w b1 b2
    have h := Calc_tq 2 (numT (calcP 3 t.n x u.n y).1 (calcP 3 t.n x u.n y).2) u w w w1 (atN _ _ ok) hu (nil_bs w) b2
    have e : calcQ 2 (numT (calcP 3 t.n x u.n y).1 (calcP 3 t.n x u.n y).2).k (numT (calcP 3 t.n x u.n y).1 (calcP 3 t.n x u.n y).2).bs (numT (calcP 3 t.n x u.n y).1 (calcP 3 t.n x u.n y).2).n (numT (calcP 3 t.n x u.n y).1 (calcP 3 t.n x u.n y).2).s u.k u.bs u.n u.s = calcP 2 (calcP 3 t.n x u.n y).1 (calcP 3 t.n x u.n y).2.toNat u.n y := q3 2 (calcP 3 t.n x u.n y) ok
    rw [e] at h
    rw [show tK (calcP 3 t.n x u.n y) = 3 by simp [tK, ok], show tN (calcP 3 t.n x u.n y) = (calcP 3 t.n x u.n y).1 by simp [tN, ok], show tS (calcP 3 t.n x u.n y) = (calcP 3 t.n x u.n y).2 by simp [tS, ok]]
    exact h
  case cle =>
    intro ok n0 m1 okm
    have h := (quot_back t.n u.n x y nt' nu' n0 m1 ok).2 okm
    have e1 : (numT (calcP 2 (calcP 3 t.n x u.n y).1 (calcP 3 t.n x u.n y).2.toNat u.n y).1 (calcP 2 (calcP 3 t.n x u.n y).1 (calcP 3 t.n x u.n y).2.toNat u.n y).2).td.ok = true := by
      have e : termOk 3 [] (calcP 2 (calcP 3 t.n x u.n y).1 (calcP 3 t.n x u.n y).2.toNat u.n y).1 (calcP 2 (calcP 3 t.n x u.n y).1 (calcP 3 t.n x u.n y).2.toNat u.n y).2 = true := by simp [termOk, okm]
      exact e
    have e2 : t.td.ok = true := by show termOk t.k t.bs t.n t.s = true; rw [kt]; exact ot
    unfold TD.cT cmpT
    rw [e1, e2]
    simp only [if_true]
    unfold TD.cmp
    show cmp3 (cmpI 3 t.k) (cmpB [] t.bs) (cmpN _ _ t.n t.s.toNat) ≤ 0
    rw [kt, bt, hx]
    have z1 : cmpI 3 3 = 0 := rfl
    have z2 : cmpB [] [] = 0 := rfl
    rw [z1, z2]
    unfold cmp3 orI
    simp only [if_true]
    exact h
  case cmp =>
    intro okm w b1 b2
    rw [show tK (calcP 2 (calcP 3 t.n x u.n y).1 (calcP 3 t.n x u.n y).2.toNat u.n y) = 3 by simp [tK, okm], show tN (calcP 2 (calcP 3 t.n x u.n y).1 (calcP 3 t.n x u.n y).2.toNat u.n y) = (calcP 2 (calcP 3 t.n x u.n y).1 (calcP 3 t.n x u.n y).2.toNat u.n y).1 by simp [tN, okm], show tS (calcP 2 (calcP 3 t.n x u.n y).1 (calcP 3 t.n x u.n y).2.toNat u.n y) = (calcP 2 (calcP 3 t.n x u.n y).1 (calcP 3 t.n x u.n y).2.toNat u.n y).2 by simp [tS, okm]]
    exact implCompare_any 3 _ _ t.k t.n t.s none t.a 0 0 t.len t.cap [] t.bs w (nil_bs w) b1 (atN _ w okm).1.1 (atN _ w okm).1.2 (atN _ w okm).2.1.1 (atN _ w okm).2.1.2 ht.1.1 ht.1.2 ht.2.1.1 ht.2.1.2
  case same =>
    intro x1 x2 x3 w
    exact sameTerm_like ⟨x1, none, 0, 0, [], x2, x3⟩ ⟨x1, none, 0, 0, [], x2, x3⟩ w rfl rfl rfl rfl (nil_bs w) (nil_bs w)
  case sameT =>
    intro w b1 _
    exact sameTerm_like ⟨3, none, 0, 0, [], t.n, t.s⟩ t w kt.symm bt.symm rfl rfl (nil_bs w) b1
  case okT =>
    intro w b1 _
    have h := specTermOk_any t.k t.n t.s t.a t.len t.cap t.bs w b1 ht.1.1 ht.1.2
    have e : termOk t.k t.bs t.n t.s = true := by rw [kt]; exact ot
    rw [e] at h
    exact h.mono fun e w' hh => ⟨hh.1, by obtain ⟨o, rfl⟩ := hh.2; exact bl_a o⟩
  case okU =>
    intro w _ b2
    have h := specTermOk_any u.k u.n u.s u.a u.len u.cap u.bs w b2 hu.1.1 hu.1.2
    have e : termOk u.k u.bs u.n u.s = true := by rw [ku]; exact ou
    rw [e] at h
    exact h.mono fun e w' hh => ⟨hh.1, by obtain ⟨o, rfl⟩ := hh.2; exact bl_a o⟩
  case kt => exact kt
  case ku => exact ku
end Go.Proofs.Ytjhobhkdncdnaaa
