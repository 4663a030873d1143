/- Texts put together: StrA GrwA StsA StsK GdrE GdrF -/
import Derived.Test.YtoclingolfdfeaaGreatDoorMk03
import Derived.Test.YtoclingolfdfeaaGreatDoorMk02
import Derived.Sort.Grow
import Derived.Lib.QuietBelow
import Derived.Deep.RegionHeld3
import Derived.Deep.CutRange
import Derived.Shelf.SlSortCmp.KitK
import Derived.Deep.AppendLies
import Derived.ChangeKeysEq
import Derived.Deep.Upon
/- StrA -/
namespace Go.Proofs.YtoclingolfdfeaaGreatDoor
open Go.RowKit Go.Deep

/-- A comparison whose zero is sameness, on what P tells. -/
structure OrdP {α : Type} (P : α → Prop) (c : α → α → Int) : Prop where
  o : Ord3 c
  z : ∀ x y, P x → P y → c x y = 0 → x = y

/-- Two lists that ascend strictly and hold the same are the same. -/
theorem asc_unique {α : Type} {P : α → Prop} {c : α → α → Int} (h : OrdP P c) : ∀ (xs ys : List α), (∀ x ∈ xs, P x) → (∀ y ∈ ys, P y) → xs.Pairwise (fun x y => c x y < 0) → ys.Pairwise (fun x y => c x y < 0) → (∀ x, x ∈ xs ↔ x ∈ ys) → xs = ys
  | [], [], _, _, _, _, _ => rfl
  | [], y :: ys, _, _, _, _, hm => by have := (hm y).2 (by simp); simp at this
  | x :: xs, [], _, _, _, _, hm => by have := (hm x).1 (by simp); simp at this
  | x :: xs, y :: ys, hx, hy, ax, ay, hm => by
    have ax' := List.pairwise_cons.1 ax
    have ay' := List.pairwise_cons.1 ay
    have e : x = y := by
      have h1 := (hm x).1 (by simp)
      have h2 := (hm y).2 (by simp)
      rcases List.mem_cons.1 h1 with h1 | h1
      · exact h1
      · rcases List.mem_cons.1 h2 with h2 | h2
        · exact h2.symm
        · have a := ay'.1 x h1
          have b := ax'.1 y h2
          have := h.o.anti x y
          omega
    subst e
    have hself := h.o.self x
    congr 1
    refine asc_unique h xs ys (fun z hz => hx z (by simp [hz])) (fun z hz => hy z (by simp [hz])) ax'.2 ay'.2 fun z => ⟨fun hz => ?_, fun hz => ?_⟩
    · have := (hm z).1 (by simp [hz])
      rcases List.mem_cons.1 this with rfl | this
      · have := ax'.1 z hz; omega
      · exact this
    · have := (hm z).2 (by simp [hz])
      rcases List.mem_cons.1 this with rfl | this
      · have := ay'.1 z hz; omega
      · exact this

theorem Ord3.lt_le {α : Type} {c : α → α → Int} (h : Ord3 c) {x y z : α} (h1 : c x y < 0) (h2 : c y z ≤ 0) : c x z < 0 := by
  have h3 := h.trans x y z (by omega) h2
  by_cases e : c x z = 0
  · have a1 := h.anti x z
    have a2 := h.anti x y
    have := h.trans y z x h2 (by omega)
    omega
  · omega
theorem Ord3.lt_trans {α : Type} {c : α → α → Int} (h : Ord3 c) {x y z : α} (h1 : c x y < 0) (h2 : c y z < 0) : c x z < 0 := h.lt_le h1 (by omega)

/-- A term that may be, of bytes. -/
def TD.good (x : TD) : Prop := x.ok = true ∧ Byt x.bs
theorem TD.cT_good {x y : TD} (hx : x.good) (hy : y.good) : x.cT y = x.cmp y := by
  unfold TD.cT cmpT
  rw [hx.1, hy.1]
  rfl
theorem ordP_cmp : OrdP TD.good TD.cmp := ⟨ord_cmp, fun x y hx hy h => TD.same hx.2.get hy.2.get hx.1 (by rw [TD.cT_good hx hy]; exact h)⟩

end Go.Proofs.YtoclingolfdfeaaGreatDoor

/- GrwA -/
namespace Go.Proofs.YtoclingolfdfeaaGreatDoor
open Go.RowKit Go.Deep
set_option maxRecDepth 100000

/-- Nothing that was there is turned; blocks may lie behind it; draws may have gone on. -/
structure Gr (w w' : World) : Prop where
  bl : Below w.heap.size w w'
  dr : w.drawn ≤ w'.drawn
theorem Gr.refl (w : World) : Gr w w := ⟨Below.refl _ _, Nat.le_refl _⟩
theorem gr_alloc {w w' : World} (h : Gr w w') (o : Obj) : Gr w (w'.alloc o) := ⟨bl_alloc h.bl o, by simpa [World.alloc, -World.alloc_eq] using h.dr⟩
theorem gr_a {w : World} (o : Obj) : Gr w (w.alloc o) := gr_alloc (Gr.refl _) o
theorem gr_trans {w w' w'' : World} (h : Gr w w') (k : Gr w' w'') : Gr w w'' := ⟨bl_trans h.bl k.bl, Nat.le_trans h.dr k.dr⟩
theorem gr_drew {w w' : World} (h : Gr w w') : Gr w w'.drew := ⟨Below.drew h.bl, by have := h.dr; simp [World.drew, -World.drew_eq]; omega⟩
theorem gr_drewN {w w' : World} (h : Gr w w') (q : Nat) : Gr w (w'.drewN q) := ⟨below_drewN h.bl q, by have := h.dr; simp [World.drewN]; omega⟩
theorem Bs.gr {w w' : World} {a : Option Addr} {len : Nat} {bs : List Int} (h : Bs w a len bs) (hb : Gr w w') : Bs w' a len bs := h.below hb.bl
theorem At4.gr {w w' : World} {b : Nat} {v0 v1 v2 v3 : Value} (h : At4 w b v0 v1 v2 v3) (hb : Gr w w') : At4 w' b v0 v1 v2 v3 := h.below hb.bl
theorem gcell_keep {w w' : World} (hb : Gr w w') {p : Addr} {v : Value} (h : w.cell? p = some v) (hp : p.block < w.heap.size) : w'.cell? p = some v := cell_keep hb.bl h hp
theorem Gr.grown {w w' : World} (h : Gr w w') : ∃ q os, w' = Go.Sort.grow (w.drewN q) os := by
  obtain ⟨⟨d, os⟩, e⟩ := regrown_of_below h.bl
  have hd : w'.drawn = d := by rw [e]; rfl
  refine ⟨d - w.drawn, os, ?_⟩
  have h2 := h.dr
  rw [e]
  unfold redrawn World.drewN
  rw [show w.drawn + (d - w.drawn) = d by omega]
set_option maxRecDepth 10000 in
theorem implTermOk_gr (k n s : Int) (a : Option Addr) (len cap : Nat) (bs : List Int) (w : World) (hB : Bs w a len bs) (h1 : -9223372036854775808 ≤ n) (h2 : n ≤ 9223372036854775807) (h3 : -9223372036854775808 ≤ s) (h4 : s ≤ 9223372036854775807) :
    Calls Tryz.prog 9 #[.agg #[.int .i64 k, .slice a len cap, .int .i64 n, .int .i64 s]] w fun e w' => e = .returned (.bool (termOk k bs n s)) ∧ Gr w w' := by
  have hB1 : ∀ o1, Bs (w.alloc o1) a len bs := fun o1 => hB.gr (gr_alloc (Gr.refl _) _)
  have HL : Hid (bs.length = len) := hB.1
  have hlm := hB.2.1
  clear hB
  by_cases k0 : k = 0
  · subst k0
    generalize hg : termOk 0 bs n s = r
    have HG : Hid (termOk 0 bs n s = r) := hg
    clear hg
    go_enter Tryz.func9, Tryz.ntmps9
    go_wp2_with (go_at_call 34; refine (isName_any a len cap bs _ (hB1 _)).mono ?_; rintro e w1 ⟨rfl, rfl⟩)
    all_goals go_ret
    all_goals (refine ⟨congrArg (fun b => Ending.returned (Value.bool b)) ?_, gr_alloc (Gr.refl _) _⟩; rw [← HG.out]; clear HG; go_light; simp_all [termOk])
  by_cases k1 : k = 1
  · subst k1
    generalize hg : termOk 1 bs n s = r
    have HG : Hid (termOk 1 bs n s = r) := hg
    clear hg
    go_enter Tryz.func9, Tryz.ntmps9
    go_wp2_with (go_at_call 35; refine (within_any _ _ _ _).mono ?_; rintro e w1 ⟨rfl, rfl⟩)
    all_goals go_ret
    all_goals (refine ⟨congrArg (fun b => Ending.returned (Value.bool b)) ?_, gr_alloc (Gr.refl _) _⟩; have hg := HG.out; have hl := HL.out; rw [← hg, Bool.eq_iff_iff]; go_light; simp [termOk, -List.length_eq_zero_iff]; try omega)
  by_cases k2 : k = 2
  · subst k2
    generalize hg : termOk 2 bs n s = r
    have HG : Hid (termOk 2 bs n s = r) := hg
    clear hg
    go_enter Tryz.func9, Tryz.ntmps9
    go_wp2_with (go_at_call 36; refine (isText_any a len cap bs _ (hB1 _)).mono ?_; rintro e w1 ⟨rfl, rfl⟩)
    all_goals go_ret
    all_goals (refine ⟨congrArg (fun b => Ending.returned (Value.bool b)) ?_, gr_alloc (Gr.refl _) _⟩; rw [← HG.out]; clear HG; go_light; simp_all [termOk])
  by_cases k3 : k = 3
  · subst k3
    generalize hg : termOk 3 bs n s = r
    have HG : Hid (termOk 3 bs n s = r) := hg
    clear hg
    by_cases hl0 : len = 0
    · subst hl0
      go_enter Tryz.func9, Tryz.ntmps9
      go_wp2_with (first | (go_at_call 31; refine (decimal_any _ _ _ _ _ _ _).mono ?_; rintro e w1 ⟨rfl, o1, o2, rfl⟩) | (go_at_call 37; refine (decOk_any _ _ _ h1 h2 h3 h4).mono ?_; rintro e w2 ⟨rfl, o3, rfl⟩))
      go_ret
      refine ⟨congrArg (fun b => Ending.returned (Value.bool b)) ?_, ?_⟩
      · have hg := HG.out
        have hl := HL.out
        rw [← hg]
        simp [termOk, hl]
      · repeat (first | with_reducible exact Gr.refl _ | with_reducible apply gr_alloc | with_reducible apply gr_drew)
    · have hl0' : ((len : Int) == 0) = false := by simp; omega
      go_enter Tryz.func9, Tryz.ntmps9
      go_wp2
      go_ret
      refine ⟨congrArg (fun b => Ending.returned (Value.bool b)) ?_, ?_⟩
      · have hg := HG.out
        have hl := HL.out
        have hz : (bs.length == 0) = false := by simp only [beq_eq_false_iff_ne, ne_eq]; omega
        rw [← hg]
        simp [termOk, hz, -List.length_eq_zero_iff, -beq_eq_false_iff_ne]
      · repeat (first | with_reducible exact Gr.refl _ | with_reducible apply gr_alloc | with_reducible apply gr_drew)
  · have e : termOk k bs n s = false := by simp [termOk, k0, k1, k2, k3]
    rw [e]
    have g0 : (k == 0) = false := by simp; omega
    have g1 : (k == 1) = false := by simp; omega
    have g2 : (k == 2) = false := by simp; omega
    have g3 : (k == 3) = false := by simp; omega
    clear k0 k1 k2 k3 e
    go_enter Tryz.func9, Tryz.ntmps9
    go_wp2
    go_ret
    exact ⟨rfl, gr_alloc (Gr.refl _) _⟩

theorem decCompare_gr (n n' : Int) (s s' : Nat) (w : World) (hs : s ≤ 6) (h1 : -9223372036854775808 ≤ n) (h2 : n ≤ 9223372036854775807) (hs' : s' ≤ 6) (h1' : -9223372036854775808 ≤ n') (h2' : n' ≤ 9223372036854775807) :
    Calls Tryz.prog 155 #[.agg #[.int .i64 n, .int .i64 s], .agg #[.int .i64 n', .int .i64 s']] w fun e w' =>
      e = .returned (.int .i64 (cmpN n s n' s')) ∧ Gr w w' := by
  unfold cmpN
  go_enter Tryz.func155, Tryz.ntmps155
  go_wp2_with fail
  refine (parts_any n s _ hs h1 h2).mono ?_
  rintro e w1 ⟨rfl, q1, o1, rfl⟩
  go_wp2_with fail
  refine (parts_any n' s' _ hs' h1' h2').mono ?_
  rintro e w2 ⟨rfl, q2, o2, rfl⟩
  go_wp2_with fail
  refine (cmpInt_any _ _ _).mono ?_
  rintro e w3 ⟨rfl, rfl⟩
  go_wp2_with fail
  refine (cmpInt_any _ _ _).mono ?_
  rintro e w4 ⟨rfl, rfl⟩
  go_wp2_with fail
  refine (cmpOr_any _ _ _ _ (by simp [go_sem]; rfl) (by simp [go_sem]; rfl)).mono ?_
  rintro e w5 ⟨rfl, rfl⟩
  go_wp2
  go_ret
  refine ⟨rfl, ?_⟩
  repeat (first | with_reducible exact Gr.refl _ | with_reducible apply gr_alloc | with_reducible apply gr_drew | with_reducible apply gr_drewN)


theorem compareKind_gr (k n s k' n' s' : Int) (a a' : Option Addr) (len cap len' cap' : Nat) (w : World) :
    Calls Tryz.prog 114 #[.agg #[.int .i64 k, .slice a len cap, .int .i64 n, .int .i64 s], .agg #[.int .i64 k', .slice a' len' cap', .int .i64 n', .int .i64 s']] w fun e w' =>
      e = .returned (.int .i64 (cmpI k k')) ∧ Gr w w' := by
  go_enter Tryz.func114, Tryz.ntmps114
  go_wp2_with fail
  refine (cmpInt_any _ _ _).mono ?_
  rintro e w1 ⟨rfl, rfl⟩
  go_wp2
  go_ret
  refine ⟨rfl, ?_⟩
  repeat (first | with_reducible exact Gr.refl _ | with_reducible apply gr_alloc | with_reducible apply gr_drew | with_reducible apply gr_drewN)


theorem compareText_gr (k n s k' n' s' : Int) (a a' : Option Addr) (len cap len' cap' : Nat) (bs bs' : List Int) (w : World) (hB : Bs w a len bs) (hB' : Bs w a' len' bs') :
    Calls Tryz.prog 115 #[.agg #[.int .i64 k, .slice a len cap, .int .i64 n, .int .i64 s], .agg #[.int .i64 k', .slice a' len' cap', .int .i64 n', .int .i64 s']] w fun e w' =>
      e = .returned (.int .i64 (cmpB bs bs')) ∧ Gr w w' := by
  have h1 : ∀ o1 o2, Bs ((w.alloc o1).alloc o2) a len bs := fun o1 o2 => hB.gr (gr_alloc (gr_a _) _)
  have h2 : ∀ o1 o2, Bs ((w.alloc o1).alloc o2) a' len' bs' := fun o1 o2 => hB'.gr (gr_alloc (gr_a _) _)
  clear hB hB'
  go_enter Tryz.func115, Tryz.ntmps115
  go_wp2_with fail
  refine (bytesCompare_any a a' len cap len' cap' bs bs' _ (h1 _ _) (h2 _ _)).mono ?_
  rintro e w1 ⟨rfl, rfl⟩
  go_wp2
  go_ret
  exact ⟨rfl, gr_alloc (gr_a _) _⟩

set_option maxHeartbeats 1000000 in
theorem compareNumber_gr (k n k' n' : Int) (s s' : Nat) (a a' : Option Addr) (len cap len' cap' : Nat) (w : World) (hs : s ≤ 6) (h1 : -9223372036854775808 ≤ n) (h2 : n ≤ 9223372036854775807) (hs' : s' ≤ 6) (h1' : -9223372036854775808 ≤ n') (h2' : n' ≤ 9223372036854775807) :
    Calls Tryz.prog 116 #[.agg #[.int .i64 k, .slice a len cap, .int .i64 n, .int .i64 s], .agg #[.int .i64 k', .slice a' len' cap', .int .i64 n', .int .i64 s']] w fun e w' =>
      e = .returned (.int .i64 (cmpN n s n' s')) ∧ Gr w w' := by
  go_enter Tryz.func116, Tryz.ntmps116
  go_wp2_with fail
  go_region_with (first
    | (go_at_call 31; refine (decimal_any _ _ _ _ _ _ _).mono ?_; rintro e w1 ⟨rfl, o1, o2, rfl⟩)
    | (go_at_call 155; refine (decCompare_gr n n' s s' _ hs h1 h2 hs' h1' h2').mono ?_; rintro e w2 ⟨rfl, hb2⟩))
  all_goals (go_wp2; go_ret; refine ⟨rfl, gr_trans ?_ hb2⟩; repeat (first | with_reducible exact Gr.refl _ | with_reducible apply gr_alloc | with_reducible apply gr_drew | with_reducible apply gr_drewN))

set_option maxHeartbeats 1000000 in
theorem firstUnlike_gr (k n k' n' : Int) (s s' : Nat) (a a' : Option Addr) (len cap len' cap' : Nat) (bs bs' : List Int) (b : Nat) (w : World)
    (hB : Bs w a len bs) (hB' : Bs w a' len' bs') (hs : s ≤ 6) (h1 : -9223372036854775808 ≤ n) (h2 : n ≤ 9223372036854775807) (hs' : s' ≤ 6) (h1' : -9223372036854775808 ≤ n') (h2' : n' ≤ 9223372036854775807)
    (hb : b < w.heap.size) (f0 : w.cell? ⟨b, 0, none⟩ = some (.func (.func 114) #[] #[])) (f1 : w.cell? ⟨b, 1, none⟩ = some (.func (.func 115) #[] #[])) (f2 : w.cell? ⟨b, 2, none⟩ = some (.func (.func 116) #[] #[])) :
    Calls Tryz.prog 113 #[.agg #[.int .i64 k, .slice a len cap, .int .i64 n, .int .i64 s], .agg #[.int .i64 k', .slice a' len' cap', .int .i64 n', .int .i64 s'], .slice (some ⟨b, 0, none⟩) 3 3] w fun e w' =>
      e = .returned (.int .i64 (cmp3 (cmpI k k') (cmpB bs bs') (cmpN n s n' s'))) ∧ Gr w w' := by
  have hB2 : ∀ o1 o2, Bs ((w.alloc o1).alloc o2) a len bs := fun o1 o2 => hB.gr (gr_alloc (gr_a _) _)
  have hB2' : ∀ o1 o2, Bs ((w.alloc o1).alloc o2) a' len' bs' := fun o1 o2 => hB'.gr (gr_alloc (gr_a _) _)
  clear hB hB'
  have kind := fun w => compareKind_gr k n s k' n' s' a a' len cap len' cap' w
  have number := fun w => compareNumber_gr k n k' n' s s' a a' len cap len' cap' w hs h1 h2 hs' h1' h2'
  have text := fun w hB hB' => compareText_gr k n s k' n' s' a a' len cap len' cap' bs bs' w hB hB'
  generalize cmpI k k' = x at kind ⊢
  generalize cmpB bs bs' = y at text ⊢
  generalize cmpN n s n' s' = z at number ⊢
  go_enter Tryz.func113, Tryz.ntmps113
  go_wp2_with fail
  refine wp_loop_rounds 4 ?_
  rw [rounds_succ]
  go_wp2_with fail
  refine (kind _).mono ?_
  rintro e w1 ⟨rfl, hb1⟩
  have hw1 := gr_trans (gr_a _) (gr_trans (gr_a _) hb1)
  have hA1 := (At4.new w _ _ _ _ _).gr (gr_trans (gr_a _) hb1)
  have hX1 := (At4.at (w.alloc _) (w.heap.size + 1) _ _ _ _ _ (by simp)).gr hb1
  have hB1 := (hB2 _ _).gr hb1
  have hB1' := (hB2' _ _).gr hb1
  have g1 := gcell_keep hw1 f1 hb
  have g2 := gcell_keep hw1 f2 hb
  have hbl := Nat.lt_of_lt_of_le hb hw1.bl.size
  clear hB2 hB2' hb1 f0 f1 f2 kind
  obtain ⟨a0, a1, a2, a3, a4⟩ := id hA1
  obtain ⟨x0, x1, x2, x3, x4⟩ := id hX1
  by_cases hx : x = 0
  · subst hx
    go_wp2_with fail
    rw [rounds_succ]
    go_wp2_with fail
    refine (text _ hB1 hB1').mono ?_
    rintro e w2 ⟨rfl, hb2⟩
    have hw2 := gr_trans hw1 hb2
    have hA2 := hA1.gr hb2
    have hX2 := hX1.gr hb2
    have g3 := gcell_keep hb2 g2 hbl
    clear hB1 hB1' g1 g2 hw1 hA1 hX1 hbl hb2 text a0 a1 a2 a3 a4 x0 x1 x2 x3 x4
    obtain ⟨a0, a1, a2, a3, a4⟩ := id hA2
    obtain ⟨x0, x1, x2, x3, x4⟩ := id hX2
    by_cases hy : y = 0
    · subst hy
      go_wp2_with fail
      rw [rounds_succ]
      go_wp2_with fail
      refine (number _).mono ?_
      rintro e w3 ⟨rfl, hb3⟩
      have hw3 := gr_trans hw2 hb3
      clear hw2 hA2 hX2 g3 number a0 a1 a2 a3 a4 x0 x1 x2 x3 x4
      by_cases hz : z = 0
      · subst hz
        go_wp2_with fail
        rw [rounds_succ]
        go_wp2
        go_ret
        exact ⟨rfl, hw3⟩
      · have hz' : (z != 0) = true := by simp; omega
        clear hz
        go_wp2
        go_ret
        exact ⟨rfl, hw3⟩
    · have hy' : (y != 0) = true := by simp; omega
      have ec : Hid (cmp3 0 y z = y) := by show _ = _; simp [cmp3, orI, hy]
      clear hy
      go_wp2
      go_ret
      exact ⟨by rw [ec.out]; rfl, hw2⟩
  · have hx' : (x != 0) = true := by simp; omega
    have ec : Hid (cmp3 x y z = x) := by show _ = _; simp [cmp3, orI, hx]
    clear hx text
    go_wp2
    go_ret
    exact ⟨by rw [ec.out]; rfl, hw1⟩


set_option maxHeartbeats 1000000 in
theorem implCompare_gr (k n s k' n' s' : Int) (a a' : Option Addr) (len cap len' cap' : Nat) (bs bs' : List Int) (w : World)
    (hB : Bs w a len bs) (hB' : Bs w a' len' bs') (h1 : -9223372036854775808 ≤ n) (h2 : n ≤ 9223372036854775807) (h3 : -9223372036854775808 ≤ s) (h4 : s ≤ 9223372036854775807) (h1' : -9223372036854775808 ≤ n') (h2' : n' ≤ 9223372036854775807) (h3' : -9223372036854775808 ≤ s') (h4' : s' ≤ 9223372036854775807) :
    Calls Tryz.prog 74 #[.agg #[.int .i64 k, .slice a len cap, .int .i64 n, .int .i64 s], .agg #[.int .i64 k', .slice a' len' cap', .int .i64 n', .int .i64 s']] w fun e w' =>
      e = .returned (.int .i64 (cmpT (termOk k bs n s) (termOk k' bs' n' s') (cmp3 (cmpI k k') (cmpB bs bs') (cmpN n s.toNat n' s'.toNat)))) ∧ Gr w w' := by
  have ok1 := fun w hB => implTermOk_gr k n s a len cap bs w hB h1 h2 h3 h4
  have ok2 := fun w hB => implTermOk_gr k' n' s' a' len' cap' bs' w hB h1' h2' h3' h4'
  go_enter Tryz.func74, Tryz.ntmps74
  have hB2 : ∀ o1 o2, Bs ((w.alloc o1).alloc o2).drew a len bs := fun o1 o2 => hB.gr (gr_drew (gr_alloc (gr_a _) _))
  have hB2' : ∀ o1 o2, Bs ((w.alloc o1).alloc o2).drew a' len' bs' := fun o1 o2 => hB'.gr (gr_drew (gr_alloc (gr_a _) _))
  have tok1 : True := trivial
  clear hB hB'
  go_wp2_with fail
  go_region_held3 (fun w' => w'.cell? ⟨w.heap.size, 0, none⟩ = some (.int .i64 k) ∧ w'.cell? ⟨w.heap.size, 1, none⟩ = some (.slice a len cap) ∧ w'.cell? ⟨w.heap.size, 2, none⟩ = some (.int .i64 n) ∧ w'.cell? ⟨w.heap.size, 3, none⟩ = some (.int .i64 s) ∧ w'.cell? ⟨w.heap.size + 1, 0, none⟩ = some (.int .i64 k') ∧ w'.cell? ⟨w.heap.size + 1, 1, none⟩ = some (.slice a' len' cap') ∧ w'.cell? ⟨w.heap.size + 1, 2, none⟩ = some (.int .i64 n') ∧ w'.cell? ⟨w.heap.size + 1, 3, none⟩ = some (.int .i64 s')) (simp [*, go_sem])
    (first
      | (go_at_call 9; have _t := tok1; refine (ok1 _ (hB2 _ _)).mono ?_; rintro e w1 ⟨rfl, hb1⟩; clear tok1; have hw1 := gr_trans (gr_drew (gr_alloc (gr_a _) _)) hb1; have hA1 := (At4.new w (.int .i64 k) (.slice a len cap) (.int .i64 n) (.int .i64 s) 24).gr (gr_trans (gr_drew (gr_a _)) hb1); have hX1 := (At4.at (w.alloc (.cells #[.int .i64 k, .slice a len cap, .int .i64 n, .int .i64 s] 24)) (w.heap.size + 1) (.int .i64 k') (.slice a' len' cap') (.int .i64 n') (.int .i64 s') 24 (by simp)).gr (gr_trans (gr_drew (Gr.refl _)) hb1); have hB1 := (hB2 _ _).gr hb1; have hB1' := (hB2' _ _).gr hb1; clear hb1; obtain ⟨a0, a1, a2, a3, a4⟩ := id hA1; obtain ⟨x0, x1, x2, x3, x4⟩ := id hX1)
      | (go_at_call 9; refine (ok2 _ hB1').mono ?_; rintro e w2 ⟨rfl, hb2⟩; have hw2 := gr_trans hw1 hb2; have hA2 := hA1.gr hb2; have hX2 := hX1.gr hb2; have hB3 := hB1.gr hb2; have hB3' := hB1'.gr hb2; clear hb2 hw1 hA1 hX1 hB1 hB1' a0 a1 a2 a3 a4 x0 x1 x2 x3 x4; obtain ⟨a0, a1, a2, a3, a4⟩ := id hA2; obtain ⟨x0, x1, x2, x3, x4⟩ := id hX2))
  by_cases e1 : termOk k bs n s = true
  · by_cases e2 : termOk k' bs' n' s' = true
    · obtain ⟨b1, b2⟩ := termOk_scale e1
      obtain ⟨b1', b2'⟩ := termOk_scale e2
      obtain ⟨t, rfl⟩ : ∃ t : Nat, s = t := ⟨s.toNat, by omega⟩
      obtain ⟨t', rfl⟩ : ∃ t : Nat, s' = t := ⟨s'.toNat, by omega⟩
      clear ok1 ok2 hB2 hB2'
      go_wp2_with fail
      refine (firstUnlike_gr k n k' n' t t' a a' len cap len' cap' bs bs' w2.heap.size _ (hB3.gr (gr_a _)) (hB3'.gr (gr_a _)) (by omega) h1 h2 (by omega) h1' h2' (by simp) (by simp [go_sem]) (by simp [go_sem]) (by simp [go_sem])).mono ?_
      rintro e w3 ⟨rfl, hb3⟩
      have hw3 := gr_trans hw2 (gr_trans (gr_a _) hb3)
      have ec : Hid (cmpT (termOk k bs n t) (termOk k' bs' n' t') (cmp3 (cmpI k k') (cmpB bs bs') (cmpN n (t : Int).toNat n' (t' : Int).toNat)) = cmp3 (cmpI k k') (cmpB bs bs') (cmpN n t n' t')) := by
        show _ = _
        simp [cmpT, e1, e2]
      clear hb3
      go_wp2
      go_ret
      exact ⟨by rw [ec.out]; rfl, hw3⟩
    · have e2' : termOk k' bs' n' s' = false := by simpa using e2
      have ec : Hid (∀ c, cmpT (termOk k bs n s) (termOk k' bs' n' s') c = 1) := by intro c; simp [cmpT, e1, e2']
      clear ok1 ok2 hB2 hB2' e2
      go_wp2
      go_ret
      exact ⟨by rw [ec.out]; rfl, hw2⟩
  · have e1' : termOk k bs n s = false := by simpa using e1
    clear e1
    by_cases e2 : termOk k' bs' n' s' = true
    · have ec : Hid (∀ c, cmpT (termOk k bs n s) (termOk k' bs' n' s') c = -1) := by intro c; simp [cmpT, e1', e2]
      clear ok1 ok2 hB2 hB2'
      go_wp2
      go_ret
      exact ⟨by rw [ec.out]; rfl, hw2⟩
    · have e2' : termOk k' bs' n' s' = false := by simpa using e2
      have ec : Hid (∀ c, cmpT (termOk k bs n s) (termOk k' bs' n' s') c = 0) := by intro c; simp [cmpT, e1', e2']
      clear ok1 ok2 hB2 hB2' e2
      go_wp2
      go_ret
      exact ⟨by rw [ec.out]; rfl, hw2⟩
end Go.Proofs.YtoclingolfdfeaaGreatDoor

/- StsA -/
namespace Go.Proofs.YtoclingolfdfeaaGreatDoor
open Go.RowKit Go.Deep Go.Sort Go.Lib
set_option maxRecDepth 100000

/-- A row's cells. -/
def encR (x : Int × Int × Int) : List Value := [.int .i64 x.1, .int .i64 x.2.1, .int .i64 x.2.2]
theorem encR_len (x : Int × Int × Int) : (encR x).length = 3 := rfl
end Go.Proofs.YtoclingolfdfeaaGreatDoor

/- StsK -/
namespace Go.Proofs.YtoclingolfdfeaaGreatDoor
open Go.RowKit Go.Deep Go.Sort Go.Lib
set_option maxRecDepth 100000

theorem flatMap_len {α : Type} (enc : α → List Value) (k : Nat) (hk : ∀ x, (enc x).length = k) (l : List α) : (l.flatMap enc).length = l.length * k := by
  induction l with
  | nil => simp
  | cons x l ih => rw [List.flatMap_cons, List.length_append, ih, hk, List.length_cons, Nat.add_mul, Nat.one_mul, Nat.add_comm]
theorem flatMap_get {α : Type} (enc : α → List Value) (k : Nat) (hk : ∀ x, (enc x).length = k) (l : List α) (i c : Nat) (hi : i < l.length) (hc : c < k) : (l.flatMap enc)[i * k + c]? = (enc l[i])[c]? := by
  induction l generalizing i with
  | nil => cases hi
  | cons x l ih =>
    rw [List.flatMap_cons]
    cases i with
    | zero => rw [List.getElem?_append_left (by rw [hk]; omega)]; simp
    | succ i =>
      rw [List.getElem?_append_right (by rw [hk, Nat.add_mul]; omega)]
      have : (i + 1) * k + c - (enc x).length = i * k + c := by rw [hk, Nat.add_mul]; omega
      rw [this, ih i (by simpa using hi)]
      rfl
theorem flatMap_flatK {α : Type} [Inhabited α] (enc : α → List Value) (k : Nat) (hk : ∀ x, (enc x).length = k) (l : List α) : (flatK enc k l.toArray).toList = l.flatMap enc := by
  apply List.ext_getElem?
  intro j
  by_cases hj : j < l.length * k
  · have k0 : 0 < k := by
      rcases Nat.eq_zero_or_pos k with h | h
      · subst h; omega
      · exact h
    have hi : j / k < l.length := by rw [Nat.div_lt_iff_lt_mul k0]; exact hj
    have hc : j % k < k := Nat.mod_lt _ k0
    have h1 : (flatK enc k l.toArray)[j]! = (enc l.toArray[j / k]!)[j % k]! := get_flatK enc k l.toArray j (by simpa using hj)
    have hjs : j < (flatK enc k l.toArray).size := by rw [size_flatK]; simpa using hj
    rw [getElem!_pos _ j hjs, getElem!_pos l.toArray (j / k) (by simpa using hi)] at h1
    have h2 := flatMap_get enc k hk l (j / k) (j % k) hi hc
    rw [Nat.mul_comm, Nat.div_add_mod] at h2
    rw [h2, Array.getElem?_toList, Array.getElem?_eq_getElem hjs, h1]
    simp only [List.getElem_toArray]
    rw [getElem!_pos _ (j % k) (by rw [hk]; exact hc), List.getElem?_eq_getElem (by rw [hk]; exact hc)]
  · rw [List.getElem?_eq_none (by simp; omega), List.getElem?_eq_none (by rw [flatMap_len enc k hk]; omega)]
/-- A row of the call's own, as the sort wants it. -/
theorem holdsK_own {α : Type} [Inhabited α] (enc : α → List Value) (k : Nat) (hk : ∀ x, (enc x).length = k) {w : World} {g : Nat} {T : TypeId} {cur : Array Value} {l : List α} (hh : w.heap[g]? = some (.cells cur T (0, 0))) (htk : cur.toList.take (l.length * k) = l.flatMap enc) : HoldsK enc k w g 0 l.toArray := by
  intro j hj
  have hj' : j < l.length * k := by simpa using hj
  have hjs : j < (flatK enc k l.toArray).size := hj
  have h1 : (flatK enc k l.toArray).toList[j]? = some (flatK enc k l.toArray)[j]! := by rw [Array.getElem?_toList, Array.getElem?_eq_getElem hjs, getElem!_pos _ j hjs]
  rw [flatMap_flatK enc k hk, ← htk, List.getElem?_take, if_pos hj'] at h1
  refine ⟨?_, ?_⟩
  · simp only [World.cell?, hh, Nat.zero_add]
    simpa using h1
  · simp [World.frozen?, hh]
/-- .. and what the sort has left of it. -/
theorem own_swk {α : Type} [Inhabited α] (enc : α → List Value) (k : Nat) (hk : ∀ x, (enc x).length = k) {w w' : World} {g : Nat} {T : TypeId} {cur : Array Value} {d' : Array α} (S : SWK enc k w g 0 d' w') (hh : w.heap[g]? = some (.cells cur T (0, 0))) (hg : g < w.heap.size) (hsz : d'.size * k ≤ cur.size) :
    ∃ cur', w'.heap[g]? = some (.cells cur' T (0, 0)) ∧ cur'.size = cur.size ∧ cur'.toList.take (d'.size * k) = d'.toList.flatMap enc := by
  obtain ⟨m, os, rfl⟩ := S
  refine ⟨putCells id 0 (flatK enc k d') cur, ?_, by simp [putCells], ?_⟩
  · unfold sortWorldK
    rw [heap_grow_old _ _ (by rw [size_putRowK]; exact hg)]
    show (w.heap.modify g (onCells (putCells id 0 (flatK enc k d'))))[g]? = _
    rw [Array.getElem?_modify, if_pos rfl, hh]
    rfl
  · have e := flatMap_flatK enc k hk d'.toList
    rw [← e]
    apply List.ext_getElem?
    intro j
    rw [List.getElem?_take]
    simp only [Array.toArray_toList]
    split
    · rename_i hj
      have hjs : j < (flatK enc k d').size := by rw [size_flatK]; exact hj
      rw [Array.getElem?_toList, Array.getElem?_toList, Array.getElem?_eq_getElem hjs]
      simp only [putCells, Array.getElem?_mapIdx, Array.getElem?_eq_getElem (show j < cur.size by omega), Option.map_some]
      rw [if_pos (by omega), Nat.sub_zero, getElem!_pos _ j hjs]
      rfl
    · rename_i hj
      rw [List.getElem?_eq_none (by rw [Array.length_toList, size_flatK]; omega)]
/-- Nothing below is changed. -/
theorem below_swk {α : Type} [Inhabited α] (enc : α → List Value) (k : Nat) {w w' : World} {g B : Nat} {d' : Array α} (S : SWK enc k w g 0 d' w') (hB : B ≤ g) (hg : g < w.heap.size) : Below B w w' := by
  have hs := S.le
  obtain ⟨m, os, rfl⟩ := S
  refine ⟨rfl, rfl, rfl, hs, fun b hb => ?_⟩
  unfold sortWorldK
  rw [heap_grow_old _ _ (by rw [size_putRowK]; show b < w.heap.size; omega)]
  show (w.heap.modify g (onCells (putCells id 0 (flatK enc k d'))))[b]? = _
  rw [Array.getElem?_modify, if_neg (by omega)]
/-- The cells of a row of rows of numbers. -/
def flat3 (l : List (Int × Int × Int)) : List Value := l.flatMap encR
theorem flat3_len (l : List (Int × Int × Int)) : (flat3 l).length = l.length * 3 := flatMap_len encR 3 encR_len l
/-- Rows of numbers behind an address. -/
def RRow (w : World) (a : Option Addr) (l : List (Int × Int × Int)) : Prop := (a = none ∧ l = []) ∨ ∃ b off, a = some ⟨b, off, none⟩ ∧ b < w.heap.size ∧ ∀ j u, (flat3 l)[j]? = some u → w.cell? ⟨b, off + j, none⟩ = some u
theorem RRow.below {w w' : World} {a : Option Addr} {l : List (Int × Int × Int)} (h : RRow w a l) (hb : Below w.heap.size w w') : RRow w' a l := by
  rcases h with h | ⟨b, off, ha, hl, hc⟩
  · exact .inl h
  · exact .inr ⟨b, off, ha, Nat.lt_of_lt_of_le hl hb.size, fun j u hu => (hb.cell (p := ⟨b, off + j, none⟩) hl).trans (hc j u hu)⟩
end Go.Proofs.YtoclingolfdfeaaGreatDoor

/- GdrE -/
namespace Go.Proofs.YtoclingolfdfeaaGreatDoor
open Go.RowKit Go.Deep
set_option maxRecDepth 100000

/-- A triple with its texts. -/
structure G1 where
  t : Tm
  u : Tm
  v : Tm
  bt : List Int
  bu : List Int
  bv : List Int
def eG (x : G1) : List Value := e12 x.t x.u x.v
theorem eG_len (x : G1) : (eG x).length = 12 := rfl
def flatG (l : List G1) : List Value := l.flatMap eG
theorem flatG_len (l : List G1) : (flatG l).length = l.length * 12 := flatMap_len eG 12 eG_len l
theorem flatG_append (l m : List G1) : flatG (l ++ m) = flatG l ++ flatG m := by simp [flatG]
theorem flatG_get (l : List G1) (i c : Nat) (hi : i < l.length) (hc : c < 12) : (flatG l)[i * 12 + c]? = (eG l[i])[c]? := flatMap_get eG 12 eG_len l i c hi hc
theorem flatG_one (l : List G1) : ∀ u ∈ flatG l, u.oneCell' = true := by
  intro u hu
  obtain ⟨x, _, hx⟩ := List.mem_flatMap.1 hu
  simp only [eG, e12, List.mem_cons, List.not_mem_nil, or_false] at hx
  rcases hx with rfl | rfl | rfl | rfl | rfl | rfl | rfl | rfl | rfl | rfl | rfl | rfl <;> rfl
theorem flatG_piece {l : List G1} {f m j : Nat} {u : Value} (hu : (flatG ((l.drop f).take m))[j]? = some u) : (flatG l)[f * 12 + j]? = some u := by
  have hj : j < ((l.drop f).take m).length * 12 := by
    have := (List.getElem?_eq_some_iff.1 hu).1
    rwa [flatG_len] at this
  have hi : j / 12 < ((l.drop f).take m).length := by omega
  have hi' := hi
  rw [List.length_take, List.length_drop] at hi'
  have hc : j % 12 < 12 := Nat.mod_lt _ (by omega)
  have e : j = j / 12 * 12 + j % 12 := by omega
  rw [e, flatG_get _ _ _ hi hc] at hu
  have e2 : f * 12 + j = (f + j / 12) * 12 + j % 12 := by omega
  rw [e2, flatG_get l (f + j / 12) (j % 12) (by omega) hc]
  simpa using hu
/-- A row of triples of the call's own, or none as yet. -/
def OwnG (w : World) (B : Nat) (v : Value) (l : List G1) : Prop := w.ownsRow B 36 12 v l.length (flatG l) ∧ ∀ g, v.ownBlock = some g → B ≤ g ∧ g < w.heap.size
theorem OwnG.nil (w : World) (B : Nat) : OwnG w B (.slice none 0 0) [] := ⟨World.ownsRow_nil _ _ _ _, fun g h => by cases h⟩
theorem OwnG.past {w w' : World} {B g : Nat} {v : Value} {l : List G1} (h : OwnG w B v l) (hp : Past g w w') (hg : g < B) : OwnG w' B v l := by
  obtain ⟨⟨h1, h2⟩, hl⟩ := h
  refine ⟨⟨h1, ?_⟩, fun c hc => ⟨(hl c hc).1, Nat.lt_of_lt_of_le (hl c hc).2 hp.size⟩⟩
  rcases h2 with h2 | ⟨g', cap', cur, hv, hB, hh, r⟩
  · exact .inl h2
  · refine .inr ⟨g', cap', cur, hv, hB, ?_, r⟩
    rw [hp.block g' (hl g' (by rw [hv]; rfl)).2 (by omega)]
    exact hh
theorem OwnG.below {w w' : World} {B : Nat} {v : Value} {l : List G1} (h : OwnG w B v l) (hb : Below w.heap.size w w') : OwnG w' B v l := by
  obtain ⟨⟨h1, h2⟩, hl⟩ := h
  refine ⟨⟨h1, ?_⟩, fun c hc => ⟨(hl c hc).1, Nat.lt_of_lt_of_le (hl c hc).2 hb.size⟩⟩
  rcases h2 with h2 | ⟨g', cap', cur, hv, hB, hh, r⟩
  · exact .inl h2
  · refine .inr ⟨g', cap', cur, hv, hB, ?_, r⟩
    rw [hb.block g' (hl g' (by rw [hv]; rfl)).2]
    exact hh
theorem OwnG.base {w : World} {B B' : Nat} {v : Value} {l : List G1} (h : OwnG w B' v l) (hB : B ≤ B') : OwnG w B v l := by
  obtain ⟨⟨h1, h2⟩, hl⟩ := h
  refine ⟨⟨h1, ?_⟩, fun c hc => ⟨Nat.le_trans hB (hl c hc).1, (hl c hc).2⟩⟩
  rcases h2 with h2 | ⟨g', cap', cur, hv, hb, r⟩
  · exact .inl h2
  · exact .inr ⟨g', cap', cur, hv, Nat.le_trans hB hb, r⟩
/-- Its form: nil, or a block whose cells are the triples'. -/
theorem OwnG.form {w : World} {B : Nat} {v : Value} {l : List G1} (h : OwnG w B v l) : (v = .slice none 0 0 ∧ l = []) ∨ ∃ g cap, v = .slice (some ⟨g, 0, none⟩) l.length cap ∧ B ≤ g ∧ g < w.heap.size ∧ l.length ≤ cap ∧ ∀ j u, (flatG l)[j]? = some u → w.cell? ⟨g, j, none⟩ = some u := by
  rcases h.1.2 with ⟨hv, h0⟩ | ⟨g, cap, cur, hv, hB, hh, hle, _, hsz, htk⟩
  · exact .inl ⟨hv, List.eq_nil_of_length_eq_zero h0⟩
  · refine .inr ⟨g, cap, hv, hB, (h.2 g (by rw [hv]; rfl)).2, hle, fun j u hu => ?_⟩
    have hj := (List.getElem?_eq_some_iff.1 hu).1
    rw [flatG_len] at hj
    rw [← htk, List.getElem?_take, if_pos hj] at hu
    simp only [World.cell?, hh]
    simpa using hu
theorem flatG_cells {l : List G1} {w : World} {g off : Nat} (h : ∀ j u, (flatG l)[j]? = some u → w.cell? ⟨g, off + j, none⟩ = some u) {i : Nat} {x : G1} (hx : l[i]? = some x) : ∀ c y, (e12 x.t x.u x.v)[c]? = some y → w.cell? ⟨g, off + i * 12 + c, none⟩ = some y := by
  intro c y hy
  obtain ⟨hi, rfl⟩ := List.getElem?_eq_some_iff.1 hx
  have hc : c < 12 := (List.getElem?_eq_some_iff.1 hy).1
  have := h (i * 12 + c) y (by rw [flatG_get l i c hi hc]; exact hy)
  rwa [← Nat.add_assoc] at this

theorem Tryz.infoG36 : (Tryz.prog.info? 36).map (fun i => (i.zero, i.size, i.bytes)) = some (some (.agg #[.int .i64 0, .slice none 0 0, .int .i64 0, .int .i64 0, .int .i64 0, .slice none 0 0, .int .i64 0, .int .i64 0, .int .i64 0, .slice none 0 0, .int .i64 0, .int .i64 0]), 12, 144) := by kernel_rfl
/-- append of triples to a row of the call's own. -/
theorem appGs {ops : Array Oper} {rest : List Oper} {o : Oper} {a : Act} {Q : Exit → Act → World → Prop} {w : World} (hgd : o.guard = none) (s x : Operand)
    (ho : o.op = .call { callee := .builtin .append, args := #[s, x], argTypes := #[28, 28] })
    (B : Nat) (v : Value) (us : List G1) (hs : a.eval s = v) (HO : Hid (OwnG w B v us))
    (ad : Addr) (m c : Nat) (bs : List G1) (hx : a.eval x = .slice (some ad) m c) (hl : bs.length = m) (HN : Hid (∀ j u, (flatG bs)[j]? = some u → w.cell? (ad.add j) = some u))
    (hm : 0 < m) (N : Nat) (hN : us.length + m = N) (zs : List G1) (hz : us ++ bs = zs) (hle : N ≤ 1000000000) (hB : B ≤ w.heap.size)
    (h : ∀ g cap w', Hid (OwnG w' B (.slice (some ⟨g, 0, none⟩) N cap) zs) → Hid (w.grownBy w' v.ownBlock) → Hid (Below B w w') → wpList Tryz.prog ops Q rest (a.put o.dst (.slice (some ⟨g, 0, none⟩) N cap)) w') :
    wpList Tryz.prog ops Q (o :: rest) a w := by
  obtain ⟨i0, hi0, hzz⟩ := Option.map_eq_some_iff.1 Tryz.infoG36
  simp only [Prod.mk.injEq] at hzz
  obtain ⟨hi2, hi1, hi3⟩ := hzz
  subst hN hz
  refine wpList_append_lies _ hgd s x 28 ho B 36 i0 _ 12 144 Tryz.underlying28 hi0 hi2 hi1 hi3 rfl (by omega) v us.length (flatG us) hs HO.out.1 ad m c (flatG bs) hx (by rw [flatG_len, hl]) HN.out (flatG_one bs) hm (by unfold maxLen; omega) (by omega) hB _ rfl ?_
  intro g cap w' hown hgr hat hlt
  have hown' : w'.ownsRow B 36 12 (.slice (some ⟨g, 0, none⟩) (us.length + m) cap) (us ++ bs).length (flatG (us ++ bs)) := by
    rw [flatG_append, List.length_append, hl]
    exact hown
  refine h g cap w' ⟨hown', fun g' hg' => ?_⟩ hgr ?_
  · have : g = g' := by simpa [Value.ownBlock] using hg'
    subst this
    rcases hown.2 with ⟨hv, _⟩ | ⟨g0, c0, cur, hv, hb, _⟩
    · cases hv
    · cases hv; exact ⟨hb, hlt⟩
  · rcases HO.out.1.2 with ⟨hv, _⟩ | ⟨g0, c0, cur, hv, hb, _⟩
    · subst hv
      exact ⟨hgr.os, hgr.tape, hgr.output, hgr.size, fun b hb => hgr.block b (by omega) (by simp [Value.ownBlock])⟩
    · subst hv
      exact ⟨hgr.os, hgr.tape, hgr.output, hgr.size, fun b hb' => hgr.block b (by omega) (by intro e; have : b = g0 := (by simpa [Value.ownBlock] using e); omega)⟩
/-- append of no triples. -/
theorem appG0 {ops : Array Oper} {rest : List Oper} {o : Oper} {a : Act} {Q : Exit → Act → World → Prop} {w : World} (hgd : o.guard = none) (s x : Operand)
    (ho : o.op = .call { callee := .builtin .append, args := #[s, x], argTypes := #[28, 28] })
    (base : Option Addr) (n c : Nat) (hnc : n ≤ c) (hs : a.eval s = .slice base n c) (y : Option Addr) (c' : Nat) (hx : a.eval x = .slice y 0 c')
    (h : wpList Tryz.prog ops Q rest (a.put o.dst (.slice base n c)) w) : wpList Tryz.prog ops Q (o :: rest) a w := by
  obtain ⟨i0, hi0, hzz⟩ := Option.map_eq_some_iff.1 Tryz.infoG36
  refine wpList_plain hgd fun _ hK => ?_
  have hsrc : Src Tryz.prog i0.size 28 (.slice y 0 c') 0 [] w := by
    refine ⟨.inl ⟨_, Tryz.underlying28⟩, fun w' => by simp [Builtin.lenOf], ?_, ?_, by simp, fun u hu => by cases hu⟩
    · cases y with
      | none => simp [Builtin.firstCells]
      | some a => simp [Builtin.firstCells]; rfl
    · cases y with
      | none => simp [Builtin.firstCells]
      | some a => simp [Builtin.firstCells]; rfl
  have hr := run_append_nothing (P := Tryz.prog) w 28 28 o.type 36 i0 Tryz.underlying28 hi0 base n c hnc (.slice y 0 c') hsrc
  unfold Oper.wp execOp
  simp only [ho, resolve, invoke, builtin, Sem.run_bind, Sem.run_pure, Result.andThen_ok, List.map_toArray, List.map_cons, List.map_nil, hs, hx, hr]
  exact hK _ _ h
end Go.Proofs.YtoclingolfdfeaaGreatDoor

/- GdrF -/
namespace Go.Proofs.YtoclingolfdfeaaGreatDoor
open Go.RowKit Go.Deep
set_option maxRecDepth 100000

theorem bl_regrownG {w : World} (d : Nat) (os : Array Obj) : Below w.heap.size w (Go.Sort.grow (redrawn w d) os) := below_regrown w d os
/-- What is known of a drawn triple. -/
structure GT (w : World) (x : G1) : Prop where
  f1 : x.t.fits
  f2 : x.u.fits
  f3 : x.v.fits
  s : S3 x.t x.u x.v
  b1 : Bs w x.t.a x.t.len x.bt
  b2 : Bs w x.u.a x.u.len x.bu
  b3 : Bs w x.v.a x.v.len x.bv
theorem GT.below {w w' : World} {x : G1} (h : GT w x) (hb : Below w.heap.size w w') : GT w' x := ⟨h.f1, h.f2, h.f3, h.s, h.b1.below hb, h.b2.below hb, h.b3.below hb⟩
theorem OwnG.cap_le {w : World} {B : Nat} {ad : Addr} {n c : Nat} {l : List G1} (h : OwnG w B (.slice (some ad) n c) l) : n ≤ c := by
  rcases h.1.2 with ⟨hv, _⟩ | ⟨g, c', cur, hv, _, _, hle, _⟩
  · cases hv
  · simp only [Value.slice.injEq] at hv
    omega
theorem addr_addG (b off j : Nat) : (⟨b, off, none⟩ : Addr).add j = ⟨b, off + j, none⟩ := by
  by_cases h0 : j = 0 <;> simp [Addr.add, h0]
end Go.Proofs.YtoclingolfdfeaaGreatDoor
