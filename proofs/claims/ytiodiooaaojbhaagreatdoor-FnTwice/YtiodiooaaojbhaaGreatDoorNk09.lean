/- Texts put together: GdrB GdrD OrdA StrA GrwA StsA -/
import Derived.Test.YtiodiooaaojbhaaGreatDoorNk08
import Derived.Test.YtiodiooaaojbhaaGreatDoorNk04
import Derived.Test.YtiodiooaaojbhaaGreatDoorNk01
import Derived.Sort.Grow
import Derived.Lib.QuietBelow
import Derived.Deep.RegionHeld3
import Derived.Deep.CutRange
import Derived.Shelf.SlSortCmp.KitK
/- GdrB -/
namespace Go.Proofs.YtiodiooaaojbhaaGreatDoor
open Go.RowKit Go.Deep
set_option maxRecDepth 100000

/-- Scales that may be. -/
def S3 (t u v : Tm) : Prop := (0 ≤ t.s ∧ t.s ≤ 6) ∧ (0 ≤ u.s ∧ u.s ≤ 6) ∧ (0 ≤ v.s ∧ v.s ≤ 6)
theorem Cur.set_new {w : World} {g : Nat} {a : Option Addr} {len cap : Nat} (h : Cur w g a len cap) {c : Nat} (hc : c ≠ g) (hcode : len = 0 ∨ ∀ p, a = some p → p.block ≠ c) (i : Nat) (v : Value) : Cur (w.setCell ⟨c, i, none⟩ v) g a len cap := by
  have e : ∀ j, (w.setCell ⟨c, i, none⟩ v).cell? ⟨g, j, none⟩ = w.cell? ⟨g, j, none⟩ := fun j => World.cell?_of_block (Below.heap_setCell _ _ _ _ (fun h => hc h.symm))
  have f : ∀ j, (w.setCell ⟨c, i, none⟩ v).frozen? ⟨g, j, none⟩ = w.frozen? ⟨g, j, none⟩ := fun j => World.frozen?_setCell _ _ _ _
  refine ⟨by simpa using h.lt, (e 0).trans h.c0, ?_, ?_, (f 1).trans h.f1, (f 2).trans h.f2, ?_⟩
  · obtain ⟨k, hk, hc1⟩ := h.c1
    exact ⟨k, hk, (e 1).trans hc1⟩
  · obtain ⟨k, hc2⟩ := h.c2
    exact ⟨k, (e 2).trans hc2⟩
  · rcases h.code with h0 | ⟨b, off, ea, hb, hbg, hx⟩
    · exact .inl h0
    · rcases hcode with h0 | hne
      · exact .inl h0
      · refine .inr ⟨b, off, ea, by simpa using hb, hbg, fun j hj => ?_⟩
        rw [World.cell?_of_block (w := w) (a := ⟨b, off + j, none⟩) (Below.heap_setCell _ _ _ _ (hne _ ea))]
        exact hx j hj
end Go.Proofs.YtiodiooaaojbhaaGreatDoor

/- GdrD -/
namespace Go.Proofs.YtiodiooaaojbhaaGreatDoor
open Go.RowKit Go.Deep
set_option maxRecDepth 100000

/-- What the model's comparison answers of any two terms with small scales. -/
def cmpW (t t' : Tm) (b b' : List Int) : Int :=
  if t.k = t'.k then (if t.k = 1 then sideI (decide (t.n < t'.n)) (decide (t.n > t'.n)) else if t.k = 3 then cmpN t.n t.s.toNat t'.n t'.s.toNat else cmpB b b') else sideI (decide (t.k < t'.k)) true
def w3 (t u v t' u' v' : Tm) (bt bu bv bt' bu' bv' : List Int) : Int := cmp3 (cmpW t t' bt bt') (cmpW u u' bu bu') (cmpW v v' bv bv')
set_option maxHeartbeats 1000000 in
theorem l1compare_w (t t' : Tm) (b b' : List Int) (w : World) (hB : Bs w t.a t.len b) (hB' : Bs w t'.a t'.len b') (f : t.fits) (f' : t'.fits) (hs : 0 ≤ t.s ∧ t.s ≤ 6) (hs' : 0 ≤ t'.s ∧ t'.s ≤ 6) :
    Calls Tryz.prog 63 #[.agg #[.int .i64 t.k, .slice t.a t.len t.cap, .int .i64 t.n, .int .i64 t.s], .agg #[.int .i64 t'.k, .slice t'.a t'.len t'.cap, .int .i64 t'.n, .int .i64 t'.s]] w fun e w' =>
      e = .returned (.int .i64 (cmpW t t' b b')) ∧ Below w.heap.size w w' := by
  obtain ⟨k, a, len, cap, n, s⟩ := t
  obtain ⟨k', a', len', cap', n', s'⟩ := t'
  obtain ⟨h1, h2, _, _⟩ := f
  obtain ⟨h1', h2', _, _⟩ := f'
  dsimp only at *
  obtain ⟨z, rfl⟩ : ∃ z : Nat, s = z := ⟨s.toNat, by omega⟩
  obtain ⟨z', rfl⟩ : ∃ z : Nat, s' = z := ⟨s'.toNat, by omega⟩
  by_cases hk : k = k'
  · subst hk
    by_cases k1 : k = 1
    · subst k1
      clear hB hB'
      go_enter Tryz.func63, Tryz.ntmps63
      go_wp2_with fail
      refine (side_any _ _ _).mono ?_
      rintro e w1 ⟨rfl, rfl⟩
      go_wp2
      go_ret
      exact ⟨by simp [cmpW], bl_alloc (bl_a _) _⟩
    by_cases k3 : k = 3
    · subst k3
      clear hB hB'
      go_enter Tryz.func63, Tryz.ntmps63
      go_wp2_with fail
      refine (l1compareNum_any 3 n 3 n' z z' a a' len cap len' cap' _ (by omega) h1 h2 (by omega) h1' h2').mono ?_
      rintro e w1 ⟨rfl, hb1⟩
      go_wp2
      go_ret
      exact ⟨by simp [cmpW], bl_trans (bl_alloc (bl_a _) _) hb1⟩
    · have v1 : ∀ o1 o2, (convert 22 9 (.slice a len cap)).run Tryz.prog ((w.alloc o1).alloc o2) = .ok (.string (strOfNums b)) ((w.alloc o1).alloc o2) := fun o1 o2 => (hB.below (bl_alloc (bl_a _) _)).str
      have v2 : ∀ o1 o2, (convert 22 9 (.slice a' len' cap')).run Tryz.prog ((w.alloc o1).alloc o2) = .ok (.string (strOfNums b')) ((w.alloc o1).alloc o2) := fun o1 o2 => (hB'.below (bl_alloc (bl_a _) _)).str
      have g1' : (k == 1) = false := by simp; omega
      have g3' : (k == 3) = false := by simp; omega
      have HK : Hid (k ≠ 1 ∧ k ≠ 3) := ⟨k1, k3⟩
      clear hB hB' k1 k3
      go_enter Tryz.func63, Tryz.ntmps63
      go_wp2_with fail
      refine (side_any _ _ _).mono ?_
      rintro e w1 ⟨rfl, rfl⟩
      go_wp2
      go_ret
      refine ⟨?_, bl_alloc (bl_a _) _⟩
      simp only [cmpW, if_neg HK.out.1, if_neg HK.out.2, if_true]
      rw [← sideI_str]
      rfl
  · have HK : Hid (k ≠ k') := hk
    have hk' : (k != k') = true := by simp [hk]
    clear hk hB hB'
    go_enter Tryz.func63, Tryz.ntmps63
    go_wp2_with fail
    refine (side_any _ _ _).mono ?_
    rintro e w1 ⟨rfl, rfl⟩
    go_wp2
    go_ret
    exact ⟨by simp [cmpW, HK.out], bl_alloc (bl_a _) _⟩

set_option maxHeartbeats 4000000 in
theorem l2compare_w (t u v t' u' v' : Tm) (bt bu bv bt' bu' bv' : List Int) (w : World) (ft : t.fits) (fu : u.fits) (fv : v.fits) (ft' : t'.fits) (fu' : u'.fits) (fv' : v'.fits) (o : S3 t u v) (o' : S3 t' u' v')
    (hT : Bs w t.a t.len bt) (hU : Bs w u.a u.len bu) (hV : Bs w v.a v.len bv) (hT' : Bs w t'.a t'.len bt') (hU' : Bs w u'.a u'.len bu') (hV' : Bs w v'.a v'.len bv') :
    Calls Tryz.prog 33 #[.agg #[.int .i64 t.k, .slice t.a t.len t.cap, .int .i64 t.n, .int .i64 t.s, .int .i64 u.k, .slice u.a u.len u.cap, .int .i64 u.n, .int .i64 u.s, .int .i64 v.k, .slice v.a v.len v.cap, .int .i64 v.n, .int .i64 v.s], .agg #[.int .i64 t'.k, .slice t'.a t'.len t'.cap, .int .i64 t'.n, .int .i64 t'.s, .int .i64 u'.k, .slice u'.a u'.len u'.cap, .int .i64 u'.n, .int .i64 u'.s, .int .i64 v'.k, .slice v'.a v'.len v'.cap, .int .i64 v'.n, .int .i64 v'.s]] w fun e w' => e = .returned (.int .i64 (w3 t u v t' u' v' bt bu bv bt' bu' bv')) ∧ Below w.heap.size w w' := by
  have C1 := fun w h h' => l1compare_w t t' bt bt' w h h' ft ft' o.1 o'.1
  have C2 := fun w h h' => l1compare_w u u' bu bu' w h h' fu fu' o.2.1 o'.2.1
  have C3 := fun w h h' => l1compare_w v v' bv bv' w h h' fv fv' o.2.2 o'.2.2
  clear o o' ft fu fv ft' fu' fv'
  unfold w3
  generalize cmpW t t' bt bt' = c1 at *
  generalize cmpW u u' bu bu' = c2 at *
  generalize cmpW v v' bv bv' = c3 at *
  by_cases e1 : c1 = 0
  · subst e1
    by_cases e2 : c2 = 0
    · subst e2
      have e0 : cmp3 0 0 c3 = c3 := rfl
      rw [e0]
      go_enter Tryz.func33, Tryz.ntmps33
      go_wp2_with fail
      refine (C1 _ (hT.below (bl_alloc (bl_a _) _)) (hT'.below (bl_alloc (bl_a _) _))).mono ?_
      rintro e w1 ⟨rfl, hb1⟩
      have hA := (Own12.at w w.heap.size t u v 45 rfl).1.below (bl_trans (bl_a _) hb1)
      have hX := (Own12.at (w.alloc _) (w.heap.size + 1) t' u' v' 45 (by simp)).1.below hb1
      have hw := bl_trans (bl_alloc (bl_a _) _) hb1
      clear hb1
      obtain ⟨_, ⟨x0, x1, x2, x3⟩, ⟨x4, x5, x6, x7⟩, ⟨x8, x9, xa, xb⟩⟩ := id hA
      obtain ⟨_, ⟨y0, y1, y2, y3⟩, ⟨y4, y5, y6, y7⟩, ⟨y8, y9, ya, yb⟩⟩ := id hX
      go_wp2_with fail
      refine (C2 _ (hU.below hw) (hU'.below hw)).mono ?_
      rintro e w2 ⟨rfl, hb2⟩
      replace hA := hA.below hb2
      replace hX := hX.below hb2
      replace hw := bl_trans hw hb2
      clear hb2
      clear x0 x1 x2 x3 x4 x5 x6 x7 x8 x9 xa xb
      clear y0 y1 y2 y3 y4 y5 y6 y7 y8 y9 ya yb
      obtain ⟨_, ⟨x0, x1, x2, x3⟩, ⟨x4, x5, x6, x7⟩, ⟨x8, x9, xa, xb⟩⟩ := id hA
      obtain ⟨_, ⟨y0, y1, y2, y3⟩, ⟨y4, y5, y6, y7⟩, ⟨y8, y9, ya, yb⟩⟩ := id hX
      go_wp2_with fail
      refine (C3 _ (hV.below hw) (hV'.below hw)).mono ?_
      rintro e w3 ⟨rfl, hb3⟩
      replace hw := bl_trans hw hb3
      go_wp2
      go_ret
      exact ⟨rfl, hw⟩
    · have e0 : cmp3 0 c2 c3 = c2 := by unfold cmp3 orI; simp [e2]
      have e2' : (c2 == 0) = false := by simp [e2]
      rw [e0]
      clear e2
      go_enter Tryz.func33, Tryz.ntmps33
      go_wp2_with fail
      refine (C1 _ (hT.below (bl_alloc (bl_a _) _)) (hT'.below (bl_alloc (bl_a _) _))).mono ?_
      rintro e w1 ⟨rfl, hb1⟩
      have hA := (Own12.at w w.heap.size t u v 45 rfl).1.below (bl_trans (bl_a _) hb1)
      have hX := (Own12.at (w.alloc _) (w.heap.size + 1) t' u' v' 45 (by simp)).1.below hb1
      have hw := bl_trans (bl_alloc (bl_a _) _) hb1
      clear hb1
      obtain ⟨_, ⟨x0, x1, x2, x3⟩, ⟨x4, x5, x6, x7⟩, ⟨x8, x9, xa, xb⟩⟩ := id hA
      obtain ⟨_, ⟨y0, y1, y2, y3⟩, ⟨y4, y5, y6, y7⟩, ⟨y8, y9, ya, yb⟩⟩ := id hX
      go_wp2_with fail
      refine (C2 _ (hU.below hw) (hU'.below hw)).mono ?_
      rintro e w2 ⟨rfl, hb2⟩
      replace hA := hA.below hb2
      replace hX := hX.below hb2
      replace hw := bl_trans hw hb2
      clear hb2
      clear x0 x1 x2 x3 x4 x5 x6 x7 x8 x9 xa xb
      clear y0 y1 y2 y3 y4 y5 y6 y7 y8 y9 ya yb
      obtain ⟨_, ⟨x0, x1, x2, x3⟩, ⟨x4, x5, x6, x7⟩, ⟨x8, x9, xa, xb⟩⟩ := id hA
      obtain ⟨_, ⟨y0, y1, y2, y3⟩, ⟨y4, y5, y6, y7⟩, ⟨y8, y9, ya, yb⟩⟩ := id hX
      go_wp2
      go_ret
      exact ⟨rfl, hw⟩
  · have e0 : cmp3 c1 c2 c3 = c1 := by unfold cmp3 orI; simp [e1]
    have e1' : (c1 == 0) = false := by simp [e1]
    rw [e0]
    clear e1
    go_enter Tryz.func33, Tryz.ntmps33
    go_wp2_with fail
    refine (C1 _ (hT.below (bl_alloc (bl_a _) _)) (hT'.below (bl_alloc (bl_a _) _))).mono ?_
    rintro e w1 ⟨rfl, hb1⟩
    have hA := (Own12.at w w.heap.size t u v 45 rfl).1.below (bl_trans (bl_a _) hb1)
    have hX := (Own12.at (w.alloc _) (w.heap.size + 1) t' u' v' 45 (by simp)).1.below hb1
    have hw := bl_trans (bl_alloc (bl_a _) _) hb1
    clear hb1
    obtain ⟨_, ⟨x0, x1, x2, x3⟩, ⟨x4, x5, x6, x7⟩, ⟨x8, x9, xa, xb⟩⟩ := id hA
    obtain ⟨_, ⟨y0, y1, y2, y3⟩, ⟨y4, y5, y6, y7⟩, ⟨y8, y9, ya, yb⟩⟩ := id hX
    go_wp2
    go_ret
    exact ⟨rfl, hw⟩
end Go.Proofs.YtiodiooaaojbhaaGreatDoor

/- OrdA -/
namespace Go.Proofs.YtiodiooaaojbhaaGreatDoor
open Go.RowKit Go.Deep

/-- A comparison that answers -1, 0, 1, that turns its sign when its two sides change places, and that goes on from one to the next. -/
structure Ord3 {α : Type} (c : α → α → Int) : Prop where
  rng : ∀ x y, c x y = -1 ∨ c x y = 0 ∨ c x y = 1
  anti : ∀ x y, c x y = - c y x
  trans : ∀ x y z, c x y ≤ 0 → c y z ≤ 0 → c x z ≤ 0
theorem Ord3.self {α : Type} {c : α → α → Int} (h : Ord3 c) (x : α) : c x x = 0 := by have := h.anti x x; omega
theorem Ord3.lex {α : Type} {c d : α → α → Int} (h : Ord3 c) (k : Ord3 d) : Ord3 (fun x y => orI (c x y) (d x y)) := by
  refine ⟨fun x y => ?_, fun x y => ?_, fun x y z h1 h2 => ?_⟩
  · unfold orI
    split
    · exact k.rng x y
    · exact h.rng x y
  · have e := h.anti x y
    have f := k.anti x y
    unfold orI
    by_cases c0 : c x y = 0
    · rw [if_pos c0, if_pos (by omega)]; exact f
    · rw [if_neg c0, if_neg (by omega)]; exact e
  · have p1 : c x y ≤ 0 := by
      unfold orI at h1
      split at h1 <;> omega
    have p2 : c y z ≤ 0 := by
      unfold orI at h2
      split at h2 <;> omega
    have p3 := h.trans x y z p1 p2
    show orI (c x z) (d x z) ≤ 0
    unfold orI
    by_cases c0 : c x z = 0
    · rw [if_pos c0]
      have a1 := h.anti x z
      have a2 := h.anti x y
      have a3 := h.anti y z
      have q1 := h.trans y z x p2 (by omega)
      have q2 := h.trans z x y (by omega) p1
      have e1 : c x y = 0 := by omega
      have e2 : c y z = 0 := by omega
      have h1' : d x y ≤ 0 := by
        have : orI (c x y) (d x y) ≤ 0 := h1
        unfold orI at this
        rwa [if_pos e1] at this
      have h2' : d y z ≤ 0 := by
        have : orI (c y z) (d y z) ≤ 0 := h2
        unfold orI at this
        rwa [if_pos e2] at this
      exact k.trans x y z h1' h2'
    · rw [if_neg c0]; exact p3
theorem Ord3.key {α : Type} (f : α → Int) : Ord3 (fun x y => cmpI (f x) (f y)) := by
  refine ⟨fun x y => ?_, fun x y => ?_, fun x y z h1 h2 => ?_⟩
  · unfold cmpI
    split
    · simp
    · split <;> simp
  · unfold cmpI
    by_cases c1 : f x < f y
    · rw [if_pos c1, if_neg (by omega), if_pos c1]
    · by_cases c2 : f y < f x
      · rw [if_neg c1, if_pos c2, if_pos c2]; rfl
      · rw [if_neg c1, if_neg c2, if_neg c2, if_neg c1]; rfl
  · have g : ∀ a b : Int, cmpI a b ≤ 0 ↔ a ≤ b := by
      intro a b
      unfold cmpI
      by_cases c1 : a < b
      · rw [if_pos c1]; omega
      · by_cases c2 : b < a
        · rw [if_neg c1, if_pos c2]; omega
        · rw [if_neg c1, if_neg c2]; omega
    have h1 := (g _ _).1 h1
    have h2 := (g _ _).1 h2
    exact (g _ _).2 (by omega)

theorem cb_rng : ∀ xs ys : List UInt8, Lib.compareBytes xs ys = -1 ∨ Lib.compareBytes xs ys = 0 ∨ Lib.compareBytes xs ys = 1
  | [], [] => by simp [Lib.compareBytes]
  | [], _ :: _ => by simp [Lib.compareBytes]
  | _ :: _, [] => by simp [Lib.compareBytes]
  | a :: ar, b :: br => by
    unfold Lib.compareBytes
    split
    · simp
    · split
      · simp
      · exact cb_rng ar br
theorem u8_lt (a b : UInt8) : a < b ↔ a.toNat < b.toNat := UInt8.lt_iff_toNat_lt
theorem u8_eq {a b : UInt8} (h1 : ¬ a < b) (h2 : ¬ b < a) : a = b := by
  rw [u8_lt] at h1 h2
  exact UInt8.toNat_inj.1 (by omega)
theorem cb_anti : ∀ xs ys : List UInt8, Lib.compareBytes xs ys = - Lib.compareBytes ys xs
  | [], [] => by simp [Lib.compareBytes]
  | [], _ :: _ => by simp [Lib.compareBytes]
  | _ :: _, [] => by simp [Lib.compareBytes]
  | a :: ar, b :: br => by
    unfold Lib.compareBytes
    by_cases h1 : a < b
    · have h2 : ¬ b < a := by rw [u8_lt] at *; omega
      rw [if_pos h1, if_neg h2, if_pos h1]
    · by_cases h2 : b < a
      · rw [if_neg h1, if_pos h2, if_pos h2]; rfl
      · rw [if_neg h1, if_neg h2, if_neg h2, if_neg h1]
        exact cb_anti ar br
theorem cb_trans : ∀ xs ys zs : List UInt8, Lib.compareBytes xs ys ≤ 0 → Lib.compareBytes ys zs ≤ 0 → Lib.compareBytes xs zs ≤ 0
  | [], _, [] => by simp [Lib.compareBytes]
  | [], _, _ :: _ => by simp [Lib.compareBytes]
  | _ :: _, [], _ => by simp [Lib.compareBytes]
  | _ :: _, _ :: _, [] => by simp [Lib.compareBytes]
  | a :: ar, b :: br, c :: cr => by
    unfold Lib.compareBytes
    intro h1 h2
    by_cases a1 : a < b
    · by_cases b1 : b < c
      · have : a < c := by rw [u8_lt] at *; omega
        rw [if_pos this]; omega
      · by_cases b2 : c < b
        · rw [if_neg b1, if_pos b2] at h2; omega
        · have := u8_eq b1 b2
          subst this
          rw [if_pos a1]; omega
    · by_cases a2 : b < a
      · rw [if_neg a1, if_pos a2] at h1; omega
      · have := u8_eq a1 a2
        subst this
        rw [if_neg a1, if_neg a1] at h1
        by_cases b1 : a < c
        · rw [if_pos b1]; omega
        · by_cases b2 : c < a
          · rw [if_neg b1, if_pos b2] at h2; omega
          · rw [if_neg b1, if_neg b2] at h2 ⊢
            exact cb_trans ar br cr h1 h2
theorem cb_zero : ∀ xs ys : List UInt8, Lib.compareBytes xs ys = 0 → xs = ys
  | [], [] => fun _ => rfl
  | [], _ :: _ => by simp [Lib.compareBytes]
  | _ :: _, [] => by simp [Lib.compareBytes]
  | a :: ar, b :: br => by
    unfold Lib.compareBytes
    intro h
    by_cases h1 : a < b
    · rw [if_pos h1] at h; omega
    · by_cases h2 : b < a
      · rw [if_neg h1, if_pos h2] at h; omega
      · rw [if_neg h1, if_neg h2] at h
        rw [u8_eq h1 h2, cb_zero ar br h]
theorem bytesOf_inj {xs ys : List Int} (hx : ∀ i : Nat, 0 ≤ xs[i]?.getD 0 ∧ xs[i]?.getD 0 ≤ 255) (hy : ∀ i : Nat, 0 ≤ ys[i]?.getD 0 ∧ ys[i]?.getD 0 ≤ 255) (h : Lib.bytesOf xs = Lib.bytesOf ys) : xs = ys := by
  have hl : xs.length = ys.length := by
    have := congrArg List.length h
    simpa [Lib.bytesOf] using this
  refine List.ext_getElem? fun i => ?_
  by_cases hi : i < xs.length
  · have h1 := congrArg (fun l => l[i]?) h
    simp only [Lib.bytesOf, List.getElem?_map, List.getElem?_eq_getElem hi, List.getElem?_eq_getElem (show i < ys.length by omega), Option.map_some, Option.some.injEq] at h1
    have hx' := hx i
    have hy' := hy i
    rw [List.getElem?_eq_getElem hi] at hx' ⊢
    rw [List.getElem?_eq_getElem (show i < ys.length by omega)] at hy' ⊢
    simp only [Option.getD_some] at hx' hy'
    have h2 := congrArg UInt8.toNat h1
    simp only [UInt8.toNat_ofNat'] at h2
    congr 1
    omega
  · rw [List.getElem?_eq_none (by omega), List.getElem?_eq_none (by omega)]

/-- A term's parts. -/
structure TD where
  k : Int
  bs : List Int
  n : Int
  s : Int
def TD.ok (x : TD) : Bool := termOk x.k x.bs x.n x.s
def TD.cmp (x y : TD) : Int := cmp3 (cmpI x.k y.k) (cmpB x.bs y.bs) (cmpN x.n x.s.toNat y.n y.s.toNat)
def TD.cT (x y : TD) : Int := cmpT x.ok y.ok (x.cmp y)
theorem ord_cmpB : Ord3 (fun x y : TD => cmpB x.bs y.bs) := ⟨fun _ _ => cb_rng _ _, fun _ _ => cb_anti _ _, fun _ _ _ => cb_trans _ _ _⟩
theorem ord_cmp : Ord3 TD.cmp := Ord3.lex (Ord3.key TD.k) (Ord3.lex ord_cmpB (Ord3.lex (Ord3.key fun x : TD => x.n.tdiv (p10 x.s.toNat)) (Ord3.key fun x : TD => restOf x.n x.s.toNat)))
theorem cmpI_zero {a b : Int} (h : cmpI a b = 0) : a = b := by
  unfold cmpI at h
  split at h
  · omega
  · split at h <;> omega
theorem orI_zero {a b : Int} (h : orI a b = 0) : a = 0 ∧ b = 0 := by
  unfold orI at h
  split at h
  · exact ⟨by assumption, h⟩
  · omega
theorem scaled (n : Int) (s : Nat) (hs : s ≤ 6) : n * p10 (6 - s) = n.tdiv (p10 s) * 1000000 + restOf n s := by
  have h : s = 0 ∨ s = 1 ∨ s = 2 ∨ s = 3 ∨ s = 4 ∨ s = 5 ∨ s = 6 := by omega
  rcases h with rfl | rfl | rfl | rfl | rfl | rfl | rfl
  · have t := Int.mul_tdiv_add_tmod n 1; simp [restOf, p10]
  · have t := Int.mul_tdiv_add_tmod n 10; simp [restOf, p10]; omega
  · have t := Int.mul_tdiv_add_tmod n 100; simp [restOf, p10]; omega
  · have t := Int.mul_tdiv_add_tmod n 1000; simp [restOf, p10]; omega
  · have t := Int.mul_tdiv_add_tmod n 10000; simp [restOf, p10]; omega
  · have t := Int.mul_tdiv_add_tmod n 100000; simp [restOf, p10]; omega
  · have t := Int.mul_tdiv_add_tmod n 1000000; simp [restOf, p10]; omega
theorem num_same {n n' : Int} {s s' : Nat} (hs : s ≤ 6) (hs' : s' ≤ 6) (o : s = 0 ∨ n.tmod 10 ≠ 0) (o' : s' = 0 ∨ n'.tmod 10 ≠ 0) (h : cmpN n s n' s' = 0) : n = n' ∧ s = s' := by
  unfold cmpN at h
  obtain ⟨h1, h2⟩ := orI_zero h
  have h1 := cmpI_zero h1
  have h2 := cmpI_zero h2
  have e1 := scaled n s hs
  have e2 := scaled n' s' hs'
  rw [h1, h2] at e1
  have e : n * p10 (6 - s) = n' * p10 (6 - s') := by omega
  have c1 : s = 0 ∨ s = 1 ∨ s = 2 ∨ s = 3 ∨ s = 4 ∨ s = 5 ∨ s = 6 := by omega
  have c2 : s' = 0 ∨ s' = 1 ∨ s' = 2 ∨ s' = 3 ∨ s' = 4 ∨ s' = 5 ∨ s' = 6 := by omega
  have m1 := Int.mul_tdiv_add_tmod n 10
  have m2 := Int.mul_tdiv_add_tmod n' 10
  have b1 := tmod_bound n 10 (by omega)
  have b2 := tmod_bound n' 10 (by omega)
  clear h1 h2 e1 e2 h
  rcases c1 with rfl | rfl | rfl | rfl | rfl | rfl | rfl <;> rcases c2 with rfl | rfl | rfl | rfl | rfl | rfl | rfl <;> simp [p10] at e <;> omega
/-- Terms that may be and compare alike are the same. -/
theorem TD.same {x y : TD} (hx : ∀ i : Nat, 0 ≤ x.bs[i]?.getD 0 ∧ x.bs[i]?.getD 0 ≤ 255) (hy : ∀ i : Nat, 0 ≤ y.bs[i]?.getD 0 ∧ y.bs[i]?.getD 0 ≤ 255) (ok : x.ok = true) (h : x.cT y = 0) : x = y := by
  have oky : y.ok = true := by
    cases e : y.ok
    · unfold TD.cT cmpT at h
      rw [ok, e] at h
      simp at h
    · rfl
  have h' : x.cmp y = 0 := by
    unfold TD.cT cmpT at h
    rw [ok, oky] at h
    simpa using h
  obtain ⟨k, bs, n, s⟩ := x
  obtain ⟨k', bs', n', s'⟩ := y
  unfold TD.cmp cmp3 at h'
  obtain ⟨h1, h2⟩ := orI_zero h'
  obtain ⟨h2, h3⟩ := orI_zero h2
  have hk : k = k' := cmpI_zero h1
  have hbs : bs = bs' := bytesOf_inj hx hy (cb_zero _ _ h2)
  have h3 : cmpN n s.toNat n' s'.toNat = 0 := h3
  clear h1 h2
  subst hk hbs
  have o1 : termOk k bs n s = true := ok
  have o2 : termOk k bs n' s' = true := oky
  have s1 := termOk_scale o1
  have s2 := termOk_scale o2
  have hz : n = n' ∧ s = s' := by
    unfold termOk at o1 o2
    by_cases k0 : k = 0
    · rw [if_pos k0] at o1 o2; simp at o1 o2; omega
    by_cases k1 : k = 1
    · rw [if_neg k0, if_pos k1] at o1 o2
      simp at o1 o2
      have a1 : s = 0 := o1.2
      have a2 : s' = 0 := o2.2
      subst a1 a2
      have := num_same (s := 0) (s' := 0) (by omega) (by omega) (.inl rfl) (.inl rfl) h3
      exact ⟨this.1, rfl⟩
    by_cases k2 : k = 2
    · rw [if_neg k0, if_neg k1, if_pos k2] at o1 o2; simp at o1 o2; omega
    by_cases k3 : k = 3
    · rw [if_neg k0, if_neg k1, if_neg k2, if_pos k3] at o1 o2
      simp only [Bool.and_eq_true, numOk, Bool.or_eq_true, decide_eq_true_eq, beq_iff_eq, bne_iff_ne] at o1 o2
      have := num_same (s := s.toNat) (s' := s'.toNat) (by omega) (by omega) (o1.2.2.elim (fun h => .inl (by omega)) (fun h => .inr h)) (o2.2.2.elim (fun h => .inl (by omega)) (fun h => .inr h)) h3
      exact ⟨this.1, by omega⟩
    · rw [if_neg k0, if_neg k1, if_neg k2, if_neg k3] at o1; cases o1
  obtain ⟨rfl, rfl⟩ := hz
  rfl
end Go.Proofs.YtiodiooaaojbhaaGreatDoor

/- StrA -/
namespace Go.Proofs.YtiodiooaaojbhaaGreatDoor
open Go.RowKit Go.Deep

/-- A comparison whose zero is sameness, on what P tells. -/
structure OrdP {α : Type} (P : α → Prop) (c : α → α → Int) : Prop where
  o : Ord3 c
  z : ∀ x y, P x → P y → c x y = 0 → x = y

/-- Two lists that ascend strictly and hold the same are the same. -/
theorem asc_unique {α : Type} {P : α → Prop} {c : α → α → Int} (h : OrdP P c) : ∀ (xs ys : List α), (∀ x ∈ xs, P x) → (∀ y ∈ ys, P y) → xs.Pairwise (fun x y => c x y < 0) → ys.Pairwise (fun x y => c x y < 0) → (∀ x, x ∈ xs ↔ x ∈ ys) → xs = ys
  | [], [], _, _, _, _, _ => rfl
  | [], y :: ys, _, _, _, _, hm => by have := (hm y).2 (by simp); simp at this
  | x :: xs, [], _, _, _, _, hm => by have := (hm x).1 (by simp); simp at this
  | x :: xs, y :: ys, hx, hy, ax, ay, hm => by
    have ax' := List.pairwise_cons.1 ax
    have ay' := List.pairwise_cons.1 ay
    have e : x = y := by
      have h1 := (hm x).1 (by simp)
      have h2 := (hm y).2 (by simp)
      rcases List.mem_cons.1 h1 with h1 | h1
      · exact h1
      · rcases List.mem_cons.1 h2 with h2 | h2
        · exact h2.symm
        · have a := ay'.1 x h1
          have b := ax'.1 y h2
          have := h.o.anti x y
          omega
    subst e
    have hself := h.o.self x
    congr 1
    refine asc_unique h xs ys (fun z hz => hx z (by simp [hz])) (fun z hz => hy z (by simp [hz])) ax'.2 ay'.2 fun z => ⟨fun hz => ?_, fun hz => ?_⟩
    · have := (hm z).1 (by simp [hz])
      rcases List.mem_cons.1 this with rfl | this
      · have := ax'.1 z hz; omega
      · exact this
    · have := (hm z).2 (by simp [hz])
      rcases List.mem_cons.1 this with rfl | this
      · have := ay'.1 z hz; omega
      · exact this

/-- A term that may be, of bytes. -/
def TD.good (x : TD) : Prop := x.ok = true ∧ Byt x.bs
theorem TD.cT_good {x y : TD} (hx : x.good) (hy : y.good) : x.cT y = x.cmp y := by
  unfold TD.cT cmpT
  rw [hx.1, hy.1]
  rfl
theorem ordP_cmp : OrdP TD.good TD.cmp := ⟨ord_cmp, fun x y hx hy h => TD.same hx.2.get hy.2.get hx.1 (by rw [TD.cT_good hx hy]; exact h)⟩

end Go.Proofs.YtiodiooaaojbhaaGreatDoor

/- GrwA -/
namespace Go.Proofs.YtiodiooaaojbhaaGreatDoor
open Go.RowKit Go.Deep
set_option maxRecDepth 100000

/-- Nothing that was there is turned; blocks may lie behind it; draws may have gone on. -/
structure Gr (w w' : World) : Prop where
  bl : Below w.heap.size w w'
  dr : w.drawn ≤ w'.drawn
theorem Gr.refl (w : World) : Gr w w := ⟨Below.refl _ _, Nat.le_refl _⟩
theorem gr_alloc {w w' : World} (h : Gr w w') (o : Obj) : Gr w (w'.alloc o) := ⟨bl_alloc h.bl o, by simpa [World.alloc, -World.alloc_eq] using h.dr⟩
theorem gr_a {w : World} (o : Obj) : Gr w (w.alloc o) := gr_alloc (Gr.refl _) o
theorem gr_trans {w w' w'' : World} (h : Gr w w') (k : Gr w' w'') : Gr w w'' := ⟨bl_trans h.bl k.bl, Nat.le_trans h.dr k.dr⟩
theorem gr_drew {w w' : World} (h : Gr w w') : Gr w w'.drew := ⟨Below.drew h.bl, by have := h.dr; simp [World.drew, -World.drew_eq]; omega⟩
theorem gr_drewN {w w' : World} (h : Gr w w') (q : Nat) : Gr w (w'.drewN q) := ⟨below_drewN h.bl q, by have := h.dr; simp [World.drewN]; omega⟩
theorem Bs.gr {w w' : World} {a : Option Addr} {len : Nat} {bs : List Int} (h : Bs w a len bs) (hb : Gr w w') : Bs w' a len bs := h.below hb.bl
theorem At4.gr {w w' : World} {b : Nat} {v0 v1 v2 v3 : Value} (h : At4 w b v0 v1 v2 v3) (hb : Gr w w') : At4 w' b v0 v1 v2 v3 := h.below hb.bl
theorem gcell_keep {w w' : World} (hb : Gr w w') {p : Addr} {v : Value} (h : w.cell? p = some v) (hp : p.block < w.heap.size) : w'.cell? p = some v := cell_keep hb.bl h hp
theorem Gr.grown {w w' : World} (h : Gr w w') : ∃ q os, w' = Go.Sort.grow (w.drewN q) os := by
  obtain ⟨⟨d, os⟩, e⟩ := regrown_of_below h.bl
  have hd : w'.drawn = d := by rw [e]; rfl
  refine ⟨d - w.drawn, os, ?_⟩
  have h2 := h.dr
  rw [e]
  unfold redrawn World.drewN
  rw [show w.drawn + (d - w.drawn) = d by omega]
set_option maxRecDepth 10000 in
theorem implTermOk_gr (k n s : Int) (a : Option Addr) (len cap : Nat) (bs : List Int) (w : World) (hB : Bs w a len bs) (h1 : -9223372036854775808 ≤ n) (h2 : n ≤ 9223372036854775807) (h3 : -9223372036854775808 ≤ s) (h4 : s ≤ 9223372036854775807) :
    Calls Tryz.prog 53 #[.agg #[.int .i64 k, .slice a len cap, .int .i64 n, .int .i64 s]] w fun e w' => e = .returned (.bool (termOk k bs n s)) ∧ Gr w w' := by
  have hB1 : ∀ o1, Bs (w.alloc o1) a len bs := fun o1 => hB.gr (gr_alloc (Gr.refl _) _)
  have HL : Hid (bs.length = len) := hB.1
  have hlm := hB.2.1
  clear hB
  by_cases k0 : k = 0
  · subst k0
    generalize hg : termOk 0 bs n s = r
    have HG : Hid (termOk 0 bs n s = r) := hg
    clear hg
    go_enter Tryz.func53, Tryz.ntmps53
    go_wp2_with (go_at_call 76; refine (isName_any a len cap bs _ (hB1 _)).mono ?_; rintro e w1 ⟨rfl, rfl⟩)
    all_goals go_ret
    all_goals (refine ⟨congrArg (fun b => Ending.returned (Value.bool b)) ?_, gr_alloc (Gr.refl _) _⟩; rw [← HG.out]; clear HG; go_light; simp_all [termOk])
  by_cases k1 : k = 1
  · subst k1
    generalize hg : termOk 1 bs n s = r
    have HG : Hid (termOk 1 bs n s = r) := hg
    clear hg
    go_enter Tryz.func53, Tryz.ntmps53
    go_wp2_with (go_at_call 87; refine (within_any _ _ _ _).mono ?_; rintro e w1 ⟨rfl, rfl⟩)
    all_goals go_ret
    all_goals (refine ⟨congrArg (fun b => Ending.returned (Value.bool b)) ?_, gr_alloc (Gr.refl _) _⟩; have hg := HG.out; have hl := HL.out; rw [← hg, Bool.eq_iff_iff]; go_light; simp [termOk, -List.length_eq_zero_iff]; try omega)
  by_cases k2 : k = 2
  · subst k2
    generalize hg : termOk 2 bs n s = r
    have HG : Hid (termOk 2 bs n s = r) := hg
    clear hg
    go_enter Tryz.func53, Tryz.ntmps53
    go_wp2_with (go_at_call 88; refine (isText_any a len cap bs _ (hB1 _)).mono ?_; rintro e w1 ⟨rfl, rfl⟩)
    all_goals go_ret
    all_goals (refine ⟨congrArg (fun b => Ending.returned (Value.bool b)) ?_, gr_alloc (Gr.refl _) _⟩; rw [← HG.out]; clear HG; go_light; simp_all [termOk])
  by_cases k3 : k = 3
  · subst k3
    generalize hg : termOk 3 bs n s = r
    have HG : Hid (termOk 3 bs n s = r) := hg
    clear hg
    by_cases hl0 : len = 0
    · subst hl0
      go_enter Tryz.func53, Tryz.ntmps53
      go_wp2_with (first | (go_at_call 89; refine (decimal_any _ _ _ _ _ _ _).mono ?_; rintro e w1 ⟨rfl, o1, o2, rfl⟩) | (go_at_call 90; refine (decOk_any _ _ _ h1 h2 h3 h4).mono ?_; rintro e w2 ⟨rfl, o3, rfl⟩))
      go_ret
      refine ⟨congrArg (fun b => Ending.returned (Value.bool b)) ?_, ?_⟩
      · have hg := HG.out
        have hl := HL.out
        rw [← hg]
        simp [termOk, hl]
      · repeat (first | with_reducible exact Gr.refl _ | with_reducible apply gr_alloc | with_reducible apply gr_drew)
    · have hl0' : ((len : Int) == 0) = false := by simp; omega
      go_enter Tryz.func53, Tryz.ntmps53
      go_wp2
      go_ret
      refine ⟨congrArg (fun b => Ending.returned (Value.bool b)) ?_, ?_⟩
      · have hg := HG.out
        have hl := HL.out
        have hz : (bs.length == 0) = false := by simp only [beq_eq_false_iff_ne, ne_eq]; omega
        rw [← hg]
        simp [termOk, hz, -List.length_eq_zero_iff, -beq_eq_false_iff_ne]
      · repeat (first | with_reducible exact Gr.refl _ | with_reducible apply gr_alloc | with_reducible apply gr_drew)
  · have e : termOk k bs n s = false := by simp [termOk, k0, k1, k2, k3]
    rw [e]
    have g0 : (k == 0) = false := by simp; omega
    have g1 : (k == 1) = false := by simp; omega
    have g2 : (k == 2) = false := by simp; omega
    have g3 : (k == 3) = false := by simp; omega
    clear k0 k1 k2 k3 e
    go_enter Tryz.func53, Tryz.ntmps53
    go_wp2
    go_ret
    exact ⟨rfl, gr_alloc (Gr.refl _) _⟩

theorem decCompare_gr (n n' : Int) (s s' : Nat) (w : World) (hs : s ≤ 6) (h1 : -9223372036854775808 ≤ n) (h2 : n ≤ 9223372036854775807) (hs' : s' ≤ 6) (h1' : -9223372036854775808 ≤ n') (h2' : n' ≤ 9223372036854775807) :
    Calls Tryz.prog 93 #[.agg #[.int .i64 n, .int .i64 s], .agg #[.int .i64 n', .int .i64 s']] w fun e w' =>
      e = .returned (.int .i64 (cmpN n s n' s')) ∧ Gr w w' := by
  unfold cmpN
  go_enter Tryz.func93, Tryz.ntmps93
  go_wp2_with fail
  refine (parts_any n s _ hs h1 h2).mono ?_
  rintro e w1 ⟨rfl, q1, o1, rfl⟩
  go_wp2_with fail
  refine (parts_any n' s' _ hs' h1' h2').mono ?_
  rintro e w2 ⟨rfl, q2, o2, rfl⟩
  go_wp2_with fail
  refine (cmpInt_any _ _ _).mono ?_
  rintro e w3 ⟨rfl, rfl⟩
  go_wp2_with fail
  refine (cmpInt_any _ _ _).mono ?_
  rintro e w4 ⟨rfl, rfl⟩
  go_wp2_with fail
  refine (cmpOr_any _ _ _ _ (by simp [go_sem]; rfl) (by simp [go_sem]; rfl)).mono ?_
  rintro e w5 ⟨rfl, rfl⟩
  go_wp2
  go_ret
  refine ⟨rfl, ?_⟩
  repeat (first | with_reducible exact Gr.refl _ | with_reducible apply gr_alloc | with_reducible apply gr_drew | with_reducible apply gr_drewN)


theorem compareKind_gr (k n s k' n' s' : Int) (a a' : Option Addr) (len cap len' cap' : Nat) (w : World) :
    Calls Tryz.prog 55 #[.agg #[.int .i64 k, .slice a len cap, .int .i64 n, .int .i64 s], .agg #[.int .i64 k', .slice a' len' cap', .int .i64 n', .int .i64 s']] w fun e w' =>
      e = .returned (.int .i64 (cmpI k k')) ∧ Gr w w' := by
  go_enter Tryz.func55, Tryz.ntmps55
  go_wp2_with fail
  refine (cmpInt_any _ _ _).mono ?_
  rintro e w1 ⟨rfl, rfl⟩
  go_wp2
  go_ret
  refine ⟨rfl, ?_⟩
  repeat (first | with_reducible exact Gr.refl _ | with_reducible apply gr_alloc | with_reducible apply gr_drew | with_reducible apply gr_drewN)


theorem compareText_gr (k n s k' n' s' : Int) (a a' : Option Addr) (len cap len' cap' : Nat) (bs bs' : List Int) (w : World) (hB : Bs w a len bs) (hB' : Bs w a' len' bs') :
    Calls Tryz.prog 56 #[.agg #[.int .i64 k, .slice a len cap, .int .i64 n, .int .i64 s], .agg #[.int .i64 k', .slice a' len' cap', .int .i64 n', .int .i64 s']] w fun e w' =>
      e = .returned (.int .i64 (cmpB bs bs')) ∧ Gr w w' := by
  have h1 : ∀ o1 o2, Bs ((w.alloc o1).alloc o2) a len bs := fun o1 o2 => hB.gr (gr_alloc (gr_a _) _)
  have h2 : ∀ o1 o2, Bs ((w.alloc o1).alloc o2) a' len' bs' := fun o1 o2 => hB'.gr (gr_alloc (gr_a _) _)
  clear hB hB'
  go_enter Tryz.func56, Tryz.ntmps56
  go_wp2_with fail
  refine (bytesCompare_any a a' len cap len' cap' bs bs' _ (h1 _ _) (h2 _ _)).mono ?_
  rintro e w1 ⟨rfl, rfl⟩
  go_wp2
  go_ret
  exact ⟨rfl, gr_alloc (gr_a _) _⟩

set_option maxHeartbeats 1000000 in
theorem compareNumber_gr (k n k' n' : Int) (s s' : Nat) (a a' : Option Addr) (len cap len' cap' : Nat) (w : World) (hs : s ≤ 6) (h1 : -9223372036854775808 ≤ n) (h2 : n ≤ 9223372036854775807) (hs' : s' ≤ 6) (h1' : -9223372036854775808 ≤ n') (h2' : n' ≤ 9223372036854775807) :
    Calls Tryz.prog 57 #[.agg #[.int .i64 k, .slice a len cap, .int .i64 n, .int .i64 s], .agg #[.int .i64 k', .slice a' len' cap', .int .i64 n', .int .i64 s']] w fun e w' =>
      e = .returned (.int .i64 (cmpN n s n' s')) ∧ Gr w w' := by
  go_enter Tryz.func57, Tryz.ntmps57
  go_wp2_with fail
  go_region_with (first
    | (go_at_call 89; refine (decimal_any _ _ _ _ _ _ _).mono ?_; rintro e w1 ⟨rfl, o1, o2, rfl⟩)
    | (go_at_call 93; refine (decCompare_gr n n' s s' _ hs h1 h2 hs' h1' h2').mono ?_; rintro e w2 ⟨rfl, hb2⟩))
  all_goals (go_wp2; go_ret; refine ⟨rfl, gr_trans ?_ hb2⟩; repeat (first | with_reducible exact Gr.refl _ | with_reducible apply gr_alloc | with_reducible apply gr_drew | with_reducible apply gr_drewN))

set_option maxHeartbeats 1000000 in
theorem firstUnlike_gr (k n k' n' : Int) (s s' : Nat) (a a' : Option Addr) (len cap len' cap' : Nat) (bs bs' : List Int) (b : Nat) (w : World)
    (hB : Bs w a len bs) (hB' : Bs w a' len' bs') (hs : s ≤ 6) (h1 : -9223372036854775808 ≤ n) (h2 : n ≤ 9223372036854775807) (hs' : s' ≤ 6) (h1' : -9223372036854775808 ≤ n') (h2' : n' ≤ 9223372036854775807)
    (hb : b < w.heap.size) (f0 : w.cell? ⟨b, 0, none⟩ = some (.func (.func 55) #[] #[])) (f1 : w.cell? ⟨b, 1, none⟩ = some (.func (.func 56) #[] #[])) (f2 : w.cell? ⟨b, 2, none⟩ = some (.func (.func 57) #[] #[])) :
    Calls Tryz.prog 54 #[.agg #[.int .i64 k, .slice a len cap, .int .i64 n, .int .i64 s], .agg #[.int .i64 k', .slice a' len' cap', .int .i64 n', .int .i64 s'], .slice (some ⟨b, 0, none⟩) 3 3] w fun e w' =>
      e = .returned (.int .i64 (cmp3 (cmpI k k') (cmpB bs bs') (cmpN n s n' s'))) ∧ Gr w w' := by
  have hB2 : ∀ o1 o2, Bs ((w.alloc o1).alloc o2) a len bs := fun o1 o2 => hB.gr (gr_alloc (gr_a _) _)
  have hB2' : ∀ o1 o2, Bs ((w.alloc o1).alloc o2) a' len' bs' := fun o1 o2 => hB'.gr (gr_alloc (gr_a _) _)
  clear hB hB'
  have kind := fun w => compareKind_gr k n s k' n' s' a a' len cap len' cap' w
  have number := fun w => compareNumber_gr k n k' n' s s' a a' len cap len' cap' w hs h1 h2 hs' h1' h2'
  have text := fun w hB hB' => compareText_gr k n s k' n' s' a a' len cap len' cap' bs bs' w hB hB'
  generalize cmpI k k' = x at kind ⊢
  generalize cmpB bs bs' = y at text ⊢
  generalize cmpN n s n' s' = z at number ⊢
  go_enter Tryz.func54, Tryz.ntmps54
  go_wp2_with fail
  refine wp_loop_rounds 4 ?_
  rw [rounds_succ]
  go_wp2_with fail
  refine (kind _).mono ?_
  rintro e w1 ⟨rfl, hb1⟩
  have hw1 := gr_trans (gr_a _) (gr_trans (gr_a _) hb1)
  have hA1 := (At4.new w _ _ _ _ _).gr (gr_trans (gr_a _) hb1)
  have hX1 := (At4.at (w.alloc _) (w.heap.size + 1) _ _ _ _ _ (by simp)).gr hb1
  have hB1 := (hB2 _ _).gr hb1
  have hB1' := (hB2' _ _).gr hb1
  have g1 := gcell_keep hw1 f1 hb
  have g2 := gcell_keep hw1 f2 hb
  have hbl := Nat.lt_of_lt_of_le hb hw1.bl.size
  clear hB2 hB2' hb1 f0 f1 f2 kind
  obtain ⟨a0, a1, a2, a3, a4⟩ := id hA1
  obtain ⟨x0, x1, x2, x3, x4⟩ := id hX1
  by_cases hx : x = 0
  · subst hx
    go_wp2_with fail
    rw [rounds_succ]
    go_wp2_with fail
    refine (text _ hB1 hB1').mono ?_
    rintro e w2 ⟨rfl, hb2⟩
    have hw2 := gr_trans hw1 hb2
    have hA2 := hA1.gr hb2
    have hX2 := hX1.gr hb2
    have g3 := gcell_keep hb2 g2 hbl
    clear hB1 hB1' g1 g2 hw1 hA1 hX1 hbl hb2 text a0 a1 a2 a3 a4 x0 x1 x2 x3 x4
    obtain ⟨a0, a1, a2, a3, a4⟩ := id hA2
    obtain ⟨x0, x1, x2, x3, x4⟩ := id hX2
    by_cases hy : y = 0
    · subst hy
      go_wp2_with fail
      rw [rounds_succ]
      go_wp2_with fail
      refine (number _).mono ?_
      rintro e w3 ⟨rfl, hb3⟩
      have hw3 := gr_trans hw2 hb3
      clear hw2 hA2 hX2 g3 number a0 a1 a2 a3 a4 x0 x1 x2 x3 x4
      by_cases hz : z = 0
      · subst hz
        go_wp2_with fail
        rw [rounds_succ]
        go_wp2
        go_ret
        exact ⟨rfl, hw3⟩
      · have hz' : (z != 0) = true := by simp; omega
        clear hz
        go_wp2
        go_ret
        exact ⟨rfl, hw3⟩
    · have hy' : (y != 0) = true := by simp; omega
      have ec : Hid (cmp3 0 y z = y) := by show _ = _; simp [cmp3, orI, hy]
      clear hy
      go_wp2
      go_ret
      exact ⟨by rw [ec.out]; rfl, hw2⟩
  · have hx' : (x != 0) = true := by simp; omega
    have ec : Hid (cmp3 x y z = x) := by show _ = _; simp [cmp3, orI, hx]
    clear hx text
    go_wp2
    go_ret
    exact ⟨by rw [ec.out]; rfl, hw1⟩


set_option maxHeartbeats 1000000 in
theorem implCompare_gr (k n s k' n' s' : Int) (a a' : Option Addr) (len cap len' cap' : Nat) (bs bs' : List Int) (w : World)
    (hB : Bs w a len bs) (hB' : Bs w a' len' bs') (h1 : -9223372036854775808 ≤ n) (h2 : n ≤ 9223372036854775807) (h3 : -9223372036854775808 ≤ s) (h4 : s ≤ 9223372036854775807) (h1' : -9223372036854775808 ≤ n') (h2' : n' ≤ 9223372036854775807) (h3' : -9223372036854775808 ≤ s') (h4' : s' ≤ 9223372036854775807) :
    Calls Tryz.prog 28 #[.agg #[.int .i64 k, .slice a len cap, .int .i64 n, .int .i64 s], .agg #[.int .i64 k', .slice a' len' cap', .int .i64 n', .int .i64 s']] w fun e w' =>
      e = .returned (.int .i64 (cmpT (termOk k bs n s) (termOk k' bs' n' s') (cmp3 (cmpI k k') (cmpB bs bs') (cmpN n s.toNat n' s'.toNat)))) ∧ Gr w w' := by
  have ok1 := fun w hB => implTermOk_gr k n s a len cap bs w hB h1 h2 h3 h4
  have ok2 := fun w hB => implTermOk_gr k' n' s' a' len' cap' bs' w hB h1' h2' h3' h4'
  go_enter Tryz.func28, Tryz.ntmps28
  have hB2 : ∀ o1 o2, Bs ((w.alloc o1).alloc o2).drew a len bs := fun o1 o2 => hB.gr (gr_drew (gr_alloc (gr_a _) _))
  have hB2' : ∀ o1 o2, Bs ((w.alloc o1).alloc o2).drew a' len' bs' := fun o1 o2 => hB'.gr (gr_drew (gr_alloc (gr_a _) _))
  have tok1 : True := trivial
  clear hB hB'
  go_wp2_with fail
  go_region_held3 (fun w' => w'.cell? ⟨w.heap.size, 0, none⟩ = some (.int .i64 k) ∧ w'.cell? ⟨w.heap.size, 1, none⟩ = some (.slice a len cap) ∧ w'.cell? ⟨w.heap.size, 2, none⟩ = some (.int .i64 n) ∧ w'.cell? ⟨w.heap.size, 3, none⟩ = some (.int .i64 s) ∧ w'.cell? ⟨w.heap.size + 1, 0, none⟩ = some (.int .i64 k') ∧ w'.cell? ⟨w.heap.size + 1, 1, none⟩ = some (.slice a' len' cap') ∧ w'.cell? ⟨w.heap.size + 1, 2, none⟩ = some (.int .i64 n') ∧ w'.cell? ⟨w.heap.size + 1, 3, none⟩ = some (.int .i64 s')) (simp [*, go_sem])
    (first
      | (go_at_call 53; have _t := tok1; refine (ok1 _ (hB2 _ _)).mono ?_; rintro e w1 ⟨rfl, hb1⟩; clear tok1; have hw1 := gr_trans (gr_drew (gr_alloc (gr_a _) _)) hb1; have hA1 := (At4.new w (.int .i64 k) (.slice a len cap) (.int .i64 n) (.int .i64 s) 43).gr (gr_trans (gr_drew (gr_a _)) hb1); have hX1 := (At4.at (w.alloc (.cells #[.int .i64 k, .slice a len cap, .int .i64 n, .int .i64 s] 43)) (w.heap.size + 1) (.int .i64 k') (.slice a' len' cap') (.int .i64 n') (.int .i64 s') 43 (by simp)).gr (gr_trans (gr_drew (Gr.refl _)) hb1); have hB1 := (hB2 _ _).gr hb1; have hB1' := (hB2' _ _).gr hb1; clear hb1; obtain ⟨a0, a1, a2, a3, a4⟩ := id hA1; obtain ⟨x0, x1, x2, x3, x4⟩ := id hX1)
      | (go_at_call 53; refine (ok2 _ hB1').mono ?_; rintro e w2 ⟨rfl, hb2⟩; have hw2 := gr_trans hw1 hb2; have hA2 := hA1.gr hb2; have hX2 := hX1.gr hb2; have hB3 := hB1.gr hb2; have hB3' := hB1'.gr hb2; clear hb2 hw1 hA1 hX1 hB1 hB1' a0 a1 a2 a3 a4 x0 x1 x2 x3 x4; obtain ⟨a0, a1, a2, a3, a4⟩ := id hA2; obtain ⟨x0, x1, x2, x3, x4⟩ := id hX2))
  by_cases e1 : termOk k bs n s = true
  · by_cases e2 : termOk k' bs' n' s' = true
    · obtain ⟨b1, b2⟩ := termOk_scale e1
      obtain ⟨b1', b2'⟩ := termOk_scale e2
      obtain ⟨t, rfl⟩ : ∃ t : Nat, s = t := ⟨s.toNat, by omega⟩
      obtain ⟨t', rfl⟩ : ∃ t : Nat, s' = t := ⟨s'.toNat, by omega⟩
      clear ok1 ok2 hB2 hB2'
      go_wp2_with fail
      refine (firstUnlike_gr k n k' n' t t' a a' len cap len' cap' bs bs' w2.heap.size _ (hB3.gr (gr_a _)) (hB3'.gr (gr_a _)) (by omega) h1 h2 (by omega) h1' h2' (by simp) (by simp [go_sem]) (by simp [go_sem]) (by simp [go_sem])).mono ?_
      rintro e w3 ⟨rfl, hb3⟩
      have hw3 := gr_trans hw2 (gr_trans (gr_a _) hb3)
      have ec : Hid (cmpT (termOk k bs n t) (termOk k' bs' n' t') (cmp3 (cmpI k k') (cmpB bs bs') (cmpN n (t : Int).toNat n' (t' : Int).toNat)) = cmp3 (cmpI k k') (cmpB bs bs') (cmpN n t n' t')) := by
        show _ = _
        simp [cmpT, e1, e2]
      clear hb3
      go_wp2
      go_ret
      exact ⟨by rw [ec.out]; rfl, hw3⟩
    · have e2' : termOk k' bs' n' s' = false := by simpa using e2
      have ec : Hid (∀ c, cmpT (termOk k bs n s) (termOk k' bs' n' s') c = 1) := by intro c; simp [cmpT, e1, e2']
      clear ok1 ok2 hB2 hB2' e2
      go_wp2
      go_ret
      exact ⟨by rw [ec.out]; rfl, hw2⟩
  · have e1' : termOk k bs n s = false := by simpa using e1
    clear e1
    by_cases e2 : termOk k' bs' n' s' = true
    · have ec : Hid (∀ c, cmpT (termOk k bs n s) (termOk k' bs' n' s') c = -1) := by intro c; simp [cmpT, e1', e2]
      clear ok1 ok2 hB2 hB2'
      go_wp2
      go_ret
      exact ⟨by rw [ec.out]; rfl, hw2⟩
    · have e2' : termOk k' bs' n' s' = false := by simpa using e2
      have ec : Hid (∀ c, cmpT (termOk k bs n s) (termOk k' bs' n' s') c = 0) := by intro c; simp [cmpT, e1', e2']
      clear ok1 ok2 hB2 hB2' e2
      go_wp2
      go_ret
      exact ⟨by rw [ec.out]; rfl, hw2⟩
end Go.Proofs.YtiodiooaaojbhaaGreatDoor

/- StsA -/
namespace Go.Proofs.YtiodiooaaojbhaaGreatDoor
open Go.RowKit Go.Deep Go.Sort Go.Lib
set_option maxRecDepth 100000

/-- A row's cells. -/
def encR (x : Int × Int × Int) : List Value := [.int .i64 x.1, .int .i64 x.2.1, .int .i64 x.2.2]
theorem encR_len (x : Int × Int × Int) : (encR x).length = 3 := rfl
end Go.Proofs.YtiodiooaaojbhaaGreatDoor
