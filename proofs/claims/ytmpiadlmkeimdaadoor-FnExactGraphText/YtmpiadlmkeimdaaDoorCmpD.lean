/- The contracts of firstUnlike and of the program's Compare. -/
import Derived.Test.YtmpiadlmkeimdaaDoorCmpB
import Derived.Test.YtmpiadlmkeimdaaDoorCmpC
import Derived.Deep.RegionHeld3
namespace Go.Proofs.YtmpiadlmkeimdaaDoor
open Go.RowKit Go.Deep

theorem cell_keep {w w' : World} (hb : Below w.heap.size w w') {p : Addr} {v : Value} (h : w.cell? p = some v) (hp : p.block < w.heap.size) : w'.cell? p = some v := (hb.cell hp).trans h

theorem At4.at (w : World) (b : Nat) (v0 v1 v2 v3 : Value) (t : TypeId) (e : b = w.heap.size) : At4 (w.alloc (.cells #[v0, v1, v2, v3] t)) b v0 v1 v2 v3 := by
  subst e; exact At4.new w v0 v1 v2 v3 t

/-- Two terms that may be: by kind, by text, by number: the first that tells. -/
def cmp3 (x y z : Int) : Int := orI x (orI y z)

set_option maxHeartbeats 1000000 in
theorem firstUnlike_any (k n k' n' : Int) (s s' : Nat) (a a' : Option Addr) (len cap len' cap' : Nat) (bs bs' : List Int) (b : Nat) (w : World)
    (hB : Bs w a len bs) (hB' : Bs w a' len' bs') (hs : s ≤ 6) (h1 : -9223372036854775808 ≤ n) (h2 : n ≤ 9223372036854775807) (hs' : s' ≤ 6) (h1' : -9223372036854775808 ≤ n') (h2' : n' ≤ 9223372036854775807)
    (hb : b < w.heap.size) (f0 : w.cell? ⟨b, 0, none⟩ = some (.func (.func 81) #[] #[])) (f1 : w.cell? ⟨b, 1, none⟩ = some (.func (.func 82) #[] #[])) (f2 : w.cell? ⟨b, 2, none⟩ = some (.func (.func 83) #[] #[])) :
    Calls Tryd.prog 80 #[.agg #[.int .i64 k, .slice a len cap, .int .i64 n, .int .i64 s], .agg #[.int .i64 k', .slice a' len' cap', .int .i64 n', .int .i64 s'], .slice (some ⟨b, 0, none⟩) 3 3] w fun e w' =>
      e = .returned (.int .i64 (cmp3 (cmpI k k') (cmpB bs bs') (cmpN n s n' s'))) ∧ Below w.heap.size w w' := by
  have hB2 : ∀ o1 o2, Bs ((w.alloc o1).alloc o2) a len bs := fun o1 o2 => hB.below (bl_alloc (bl_a _) _)
  have hB2' : ∀ o1 o2, Bs ((w.alloc o1).alloc o2) a' len' bs' := fun o1 o2 => hB'.below (bl_alloc (bl_a _) _)
  clear hB hB'
  have kind := fun w => compareKind_any k n s k' n' s' a a' len cap len' cap' w
  have number := fun w => compareNumber_any k n k' n' s s' a a' len cap len' cap' w hs h1 h2 hs' h1' h2'
  have text := fun w hB hB' => compareText_any k n s k' n' s' a a' len cap len' cap' bs bs' w hB hB'
  generalize cmpI k k' = x at kind ⊢
  generalize cmpB bs bs' = y at text ⊢
  generalize cmpN n s n' s' = z at number ⊢
  go_enter Tryd.func80, Tryd.ntmps80
  go_wp2_with fail
  refine wp_loop_rounds 4 ?_
  rw [rounds_succ]
  go_wp2_with fail
  refine (kind _).mono ?_
  rintro e w1 ⟨rfl, hb1⟩
  have hw1 := bl_trans (bl_a _) (bl_trans (bl_a _) hb1)
  have hA1 := (At4.new w _ _ _ _ _).below (bl_trans (bl_a _) hb1)
  have hX1 := (At4.at (w.alloc _) (w.heap.size + 1) _ _ _ _ _ (by simp)).below hb1
  have hB1 := (hB2 _ _).below hb1
  have hB1' := (hB2' _ _).below hb1
  have g1 := cell_keep hw1 f1 hb
  have g2 := cell_keep hw1 f2 hb
  have hbl := Nat.lt_of_lt_of_le hb hw1.size
  clear hB2 hB2' hb1 f0 f1 f2 kind
  obtain ⟨a0, a1, a2, a3, a4⟩ := id hA1
  obtain ⟨x0, x1, x2, x3, x4⟩ := id hX1
  by_cases hx : x = 0
  · subst hx
    go_wp2_with fail
    rw [rounds_succ]
    go_wp2_with fail
    refine (text _ hB1 hB1').mono ?_
    rintro e w2 ⟨rfl, hb2⟩
    have hw2 := bl_trans hw1 hb2
    have hA2 := hA1.below hb2
    have hX2 := hX1.below hb2
    have g3 := cell_keep hb2 g2 hbl
    clear hB1 hB1' g1 g2 hw1 hA1 hX1 hbl hb2 text a0 a1 a2 a3 a4 x0 x1 x2 x3 x4
    obtain ⟨a0, a1, a2, a3, a4⟩ := id hA2
    obtain ⟨x0, x1, x2, x3, x4⟩ := id hX2
    by_cases hy : y = 0
    · subst hy
      go_wp2_with fail
      rw [rounds_succ]
      go_wp2_with fail
      refine (number _).mono ?_
      rintro e w3 ⟨rfl, hb3⟩
      have hw3 := bl_trans hw2 hb3
      clear hw2 hA2 hX2 g3 number a0 a1 a2 a3 a4 x0 x1 x2 x3 x4
      by_cases hz : z = 0
      · subst hz
        go_wp2_with fail
        rw [rounds_succ]
        go_wp2
        go_ret
        exact ⟨rfl, hw3⟩
      · have hz' : (z != 0) = true := by simp; omega
        clear hz
        go_wp2
        go_ret
        exact ⟨rfl, hw3⟩
    · have hy' : (y != 0) = true := by simp; omega
      have ec : Hid (cmp3 0 y z = y) := by show _ = _; simp [cmp3, orI, hy]
      clear hy
      go_wp2
      go_ret
      exact ⟨by rw [ec.out]; rfl, hw2⟩
  · have hx' : (x != 0) = true := by simp; omega
    have ec : Hid (cmp3 x y z = x) := by show _ = _; simp [cmp3, orI, hx]
    clear hx text
    go_wp2
    go_ret
    exact ⟨by rw [ec.out]; rfl, hw1⟩

theorem termOk_scale {k n s : Int} {bs : List Int} (h : termOk k bs n s = true) : 0 ≤ s ∧ s ≤ 6 := by
  unfold termOk at h
  split at h
  · simp at h; omega
  split at h
  · simp at h; omega
  split at h
  · simp at h; omega
  split at h
  · simp [numOk] at h; omega
  · simp at h

/-- Whatever two terms: what may not be first. -/
def cmpT (ok ok' : Bool) (c : Int) : Int := if ok then (if ok' then c else 1) else (if ok' then -1 else 0)

set_option maxHeartbeats 1000000 in
theorem implCompare_any (k n s k' n' s' : Int) (a a' : Option Addr) (len cap len' cap' : Nat) (bs bs' : List Int) (w : World)
    (hB : Bs w a len bs) (hB' : Bs w a' len' bs') (h1 : -9223372036854775808 ≤ n) (h2 : n ≤ 9223372036854775807) (h3 : -9223372036854775808 ≤ s) (h4 : s ≤ 9223372036854775807) (h1' : -9223372036854775808 ≤ n') (h2' : n' ≤ 9223372036854775807) (h3' : -9223372036854775808 ≤ s') (h4' : s' ≤ 9223372036854775807) :
    Calls Tryd.prog 68 #[.agg #[.int .i64 k, .slice a len cap, .int .i64 n, .int .i64 s], .agg #[.int .i64 k', .slice a' len' cap', .int .i64 n', .int .i64 s']] w fun e w' =>
      e = .returned (.int .i64 (cmpT (termOk k bs n s) (termOk k' bs' n' s') (cmp3 (cmpI k k') (cmpB bs bs') (cmpN n s.toNat n' s'.toNat)))) ∧ Below w.heap.size w w' := by
  have ok1 := fun w hB => implTermOk_any k n s a len cap bs w hB h1 h2 h3 h4
  have ok2 := fun w hB => implTermOk_any k' n' s' a' len' cap' bs' w hB h1' h2' h3' h4'
  go_enter Tryd.func68, Tryd.ntmps68
  have hB2 : ∀ o1 o2, Bs ((w.alloc o1).alloc o2).drew a len bs := fun o1 o2 => hB.below (Below.drew (bl_alloc (bl_a _) _))
  have hB2' : ∀ o1 o2, Bs ((w.alloc o1).alloc o2).drew a' len' bs' := fun o1 o2 => hB'.below (Below.drew (bl_alloc (bl_a _) _))
  have tok1 : True := trivial
  clear hB hB'
  go_wp2_with fail
  go_region_held3 (fun w' => w'.cell? ⟨w.heap.size, 0, none⟩ = some (.int .i64 k) ∧ w'.cell? ⟨w.heap.size, 1, none⟩ = some (.slice a len cap) ∧ w'.cell? ⟨w.heap.size, 2, none⟩ = some (.int .i64 n) ∧ w'.cell? ⟨w.heap.size, 3, none⟩ = some (.int .i64 s) ∧ w'.cell? ⟨w.heap.size + 1, 0, none⟩ = some (.int .i64 k') ∧ w'.cell? ⟨w.heap.size + 1, 1, none⟩ = some (.slice a' len' cap') ∧ w'.cell? ⟨w.heap.size + 1, 2, none⟩ = some (.int .i64 n') ∧ w'.cell? ⟨w.heap.size + 1, 3, none⟩ = some (.int .i64 s')) (simp [*, go_sem])
    (first
      | (go_at_call 24; have _t := tok1; refine (ok1 _ (hB2 _ _)).mono ?_; rintro e w1 ⟨rfl, hb1⟩; clear tok1; have hw1 := bl_trans (Below.drew (bl_alloc (bl_a _) _)) hb1; have hA1 := (At4.new w (.int .i64 k) (.slice a len cap) (.int .i64 n) (.int .i64 s) 27).below (bl_trans (Below.drew (bl_a _)) hb1); have hX1 := (At4.at (w.alloc (.cells #[.int .i64 k, .slice a len cap, .int .i64 n, .int .i64 s] 27)) (w.heap.size + 1) (.int .i64 k') (.slice a' len' cap') (.int .i64 n') (.int .i64 s') 27 (by simp)).below (bl_trans (Below.drew (Below.refl _ _)) hb1); have hB1 := (hB2 _ _).below hb1; have hB1' := (hB2' _ _).below hb1; clear hb1; obtain ⟨a0, a1, a2, a3, a4⟩ := id hA1; obtain ⟨x0, x1, x2, x3, x4⟩ := id hX1)
      | (go_at_call 24; refine (ok2 _ hB1').mono ?_; rintro e w2 ⟨rfl, hb2⟩; have hw2 := bl_trans hw1 hb2; have hA2 := hA1.below hb2; have hX2 := hX1.below hb2; have hB3 := hB1.below hb2; have hB3' := hB1'.below hb2; clear hb2 hw1 hA1 hX1 hB1 hB1' a0 a1 a2 a3 a4 x0 x1 x2 x3 x4; obtain ⟨a0, a1, a2, a3, a4⟩ := id hA2; obtain ⟨x0, x1, x2, x3, x4⟩ := id hX2))
  by_cases e1 : termOk k bs n s = true
  · by_cases e2 : termOk k' bs' n' s' = true
    · obtain ⟨b1, b2⟩ := termOk_scale e1
      obtain ⟨b1', b2'⟩ := termOk_scale e2
      obtain ⟨t, rfl⟩ : ∃ t : Nat, s = t := ⟨s.toNat, by omega⟩
      obtain ⟨t', rfl⟩ : ∃ t : Nat, s' = t := ⟨s'.toNat, by omega⟩
      clear ok1 ok2 hB2 hB2'
      go_wp2_with fail
      refine (firstUnlike_any k n k' n' t t' a a' len cap len' cap' bs bs' w2.heap.size _ (hB3.below (bl_a _)) (hB3'.below (bl_a _)) (by omega) h1 h2 (by omega) h1' h2' (by simp) (by simp [go_sem]) (by simp [go_sem]) (by simp [go_sem])).mono ?_
      rintro e w3 ⟨rfl, hb3⟩
      have hw3 := bl_trans hw2 (bl_trans (bl_a _) hb3)
      have ec : Hid (cmpT (termOk k bs n t) (termOk k' bs' n' t') (cmp3 (cmpI k k') (cmpB bs bs') (cmpN n (t : Int).toNat n' (t' : Int).toNat)) = cmp3 (cmpI k k') (cmpB bs bs') (cmpN n t n' t')) := by
        show _ = _
        simp [cmpT, e1, e2]
      clear hb3
      go_wp2
      go_ret
      exact ⟨by rw [ec.out]; rfl, hw3⟩
    · have e2' : termOk k' bs' n' s' = false := by simpa using e2
      have ec : Hid (∀ c, cmpT (termOk k bs n s) (termOk k' bs' n' s') c = 1) := by intro c; simp [cmpT, e1, e2']
      clear ok1 ok2 hB2 hB2' e2
      go_wp2
      go_ret
      exact ⟨by rw [ec.out]; rfl, hw2⟩
  · have e1' : termOk k bs n s = false := by simpa using e1
    clear e1
    by_cases e2 : termOk k' bs' n' s' = true
    · have ec : Hid (∀ c, cmpT (termOk k bs n s) (termOk k' bs' n' s') c = -1) := by intro c; simp [cmpT, e1', e2]
      clear ok1 ok2 hB2 hB2'
      go_wp2
      go_ret
      exact ⟨by rw [ec.out]; rfl, hw2⟩
    · have e2' : termOk k' bs' n' s' = false := by simpa using e2
      have ec : Hid (∀ c, cmpT (termOk k bs n s) (termOk k' bs' n' s') c = 0) := by intro c; simp [cmpT, e1', e2']
      clear ok1 ok2 hB2 hB2' e2
      go_wp2
      go_ret
      exact ⟨by rw [ec.out]; rfl, hw2⟩
end Go.Proofs.YtmpiadlmkeimdaaDoor
