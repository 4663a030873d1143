/- The law FnTerms walked. -/
import Derived.Test.YtjhobhkdncdnaaaDrwE
import Derived.Test.YtjhobhkdncdnaaaOrdA
import Derived.Test.YtjhobhkdncdnaaaCmpF
import Derived.Deep.RegionHeld3
namespace Go.Proofs.Ytjhobhkdncdnaaa
open Go.RowKit Go.Deep

theorem bl_drewT {w : World} : Below w.heap.size w w.drew := Below.drew (Below.refl _ _)
theorem sameBytes_like (a a' : Option Addr) (len cap len' cap' : Nat) (bs : List Int) (w : World) (h : Bs w a len bs) (h' : Bs w a' len' bs) :
    Calls Try.prog 20 #[.slice a len cap, .slice a' len' cap'] w fun e w' => e = .returned (.bool true) ∧ w' = w := by
  have e1 := h.str (cap := cap)
  have e2 := h'.str (cap := cap')
  clear h h'
  go_enter Try.func20, Try.ntmps20
  go_wp2
  go_ret
  exact ⟨by simp, rfl⟩
theorem sameTerm_like (t u : Tq) (w : World) (hk : t.k = u.k) (hb : t.bs = u.bs) (hn : t.n = u.n) (hs : t.s = u.s) (h : Bs w t.a t.len t.bs) (h' : Bs w u.a u.len u.bs) :
    Calls Try.prog 9 #[.agg #[.int .i64 t.k, .slice t.a t.len t.cap, .int .i64 t.n, .int .i64 t.s], .agg #[.int .i64 u.k, .slice u.a u.len u.cap, .int .i64 u.n, .int .i64 u.s]] w fun e w' => e = .returned (.bool true) ∧ Below w.heap.size w w' := by
  have S := fun w h h' => sameBytes_like t.a u.a t.len t.cap u.len u.cap t.bs w h h'
  rw [← hb] at h'
  have k1 : (t.k == u.k) = true := by simp [hk]
  have n1 : (t.n == u.n) = true := by simp [hn]
  have s1 : (t.s == u.s) = true := by simp [hs]
  clear hk hb hn hs
  go_enter Try.func9, Try.ntmps9
  go_wp2_with fail
  refine (S _ (h.below (bl_alloc (bl_a _) _)) (h'.below (bl_alloc (bl_a _) _))).mono ?_
  rintro e w1 ⟨rfl, rfl⟩
  clear S
  go_wp2
  go_ret
  exact ⟨by simp [*], bl_alloc (bl_a _) _⟩

def Tq.td (t : Tq) : TD := ⟨t.k, t.bs, t.n, t.s⟩
theorem Compare_tq (t u : Tq) (w w0 : World) (ht : t.at w0) (hu : u.at w0) (h : Bs w t.a t.len t.bs) (h' : Bs w u.a u.len u.bs) :
    Calls Try.prog 7 #[.agg #[.int .i64 t.k, .slice t.a t.len t.cap, .int .i64 t.n, .int .i64 t.s], .agg #[.int .i64 u.k, .slice u.a u.len u.cap, .int .i64 u.n, .int .i64 u.s]] w fun e w' => e = .returned (.int .i64 (t.td.cT u.td)) ∧ Below w.heap.size w w' :=
  implCompare_any t.k t.n t.s u.k u.n u.s t.a u.a t.len t.cap u.len u.cap t.bs u.bs w h h' ht.1.1 ht.1.2 ht.2.1.1 ht.2.1.2 hu.1.1 hu.1.2 hu.2.1.1 hu.2.1.2

set_option maxRecDepth 20000 in
set_option maxHeartbeats 4000000 in
theorem walkTerms (a : Option Addr) (len cap : Nat) (w : World) (hlen : len ≤ 9223372036854775807) (hC : Code w a len) :
    Calls Try.prog 3 #[.slice a len cap] w fun e w' => e = .returned (.bool true) ∧ Below w.heap.size w w' := by
  have HC : Hid (∀ w', Below w.heap.size w w' → Code w' a len) := fun w' hb => by
    rcases hC with h | ⟨b, off, ha, hlt, hc⟩
    · exact .inl h
    · refine .inr ⟨b, off, ha, Nat.lt_of_lt_of_le hlt hb.size, fun i hi => ?_⟩
      rw [hb.cell (p := ⟨b, off + i, none⟩) hlt]
      exact hc i hi
  clear hC
  go_enter Try.func3, Try.ntmps3
  go_wp2_with fail
  refine (DrawCompare_any a len cap _ hlen (HC.out _ (Below.refl _ _))).mono ?_
  rintro e w1 ⟨t, u, rfl, ht, hu, hb1⟩
  have hA1 := (At4.new w1 (.int .i64 t.k) (.slice t.a t.len t.cap) (.int .i64 t.n) (.int .i64 t.s) 24).below (bl_a (.cells #[.int .i64 u.k, .slice u.a u.len u.cap, .int .i64 u.n, .int .i64 u.s] 24))
  have hB1 := At4.at (w1.alloc (.cells #[.int .i64 t.k, .slice t.a t.len t.cap, .int .i64 t.n, .int .i64 t.s] 24)) (w1.heap.size + 1) (.int .i64 u.k) (.slice u.a u.len u.cap) (.int .i64 u.n) (.int .i64 u.s) 24 (by simp)
  have hba : Below w1.heap.size w1 ((w1.alloc (.cells #[.int .i64 t.k, .slice t.a t.len t.cap, .int .i64 t.n, .int .i64 t.s] 24)).alloc (.cells #[.int .i64 u.k, .slice u.a u.len u.cap, .int .i64 u.n, .int .i64 u.s] 24)) := bl_alloc (bl_a _) _
  have hw1 := bl_trans hb1 hba
  go_wp2_with fail
  refine (DrawShow_any a len cap ((w1.alloc (.cells #[.int .i64 t.k, .slice t.a t.len t.cap, .int .i64 t.n, .int .i64 t.s] 24)).alloc (.cells #[.int .i64 u.k, .slice u.a u.len u.cap, .int .i64 u.n, .int .i64 u.s] 24)) hlen (HC.out _ hw1)).mono ?_
  rintro e w2 ⟨v, rfl, hv, hb2⟩
  have hbc : Below w2.heap.size w2 (w2.alloc (.cells #[.int .i64 v.k, .slice v.a v.len v.cap, .int .i64 v.n, .int .i64 v.s] 24)) := bl_a _
  have hA := (hA1.below hb2).below hbc
  have hB := (hB1.below hb2).below hbc
  have hC := At4.new w2 (.int .i64 v.k) (.slice v.a v.len v.cap) (.int .i64 v.n) (.int .i64 v.s) 24
  replace ht := ((ht.below hba).below hb2).below hbc
  replace hu := ((hu.below hba).below hb2).below hbc
  replace hv := hv.below hbc
  have hw3 := bl_trans (bl_trans hw1 hb2) hbc
  clear hb1 hba hw1 hb2 hbc hA1 hB1 HC
  have Cab := fun w h h' => Compare_tq t u w _ ht hu h h'
  have Cba := fun w h h' => Compare_tq u t w _ hu ht h h'
  have Caa := fun w h h' => Compare_tq t t w _ ht ht h h'
  have Cbc := fun w h h' => Compare_tq u v w _ hu hv h h'
  have Cac := fun w h h' => Compare_tq t v w _ ht hv h h'
  have Ok := fun w h => specTermOk_any t.k t.n t.s t.a t.len t.cap t.bs w h ht.1.1 ht.1.2
  have HSame : Hid (t.td.cT u.td = 0 → termOk t.k t.bs t.n t.s = true → ∀ w, Bs w t.a t.len t.bs → Bs w u.a u.len u.bs → Calls Try.prog 9 #[.agg #[.int .i64 t.k, .slice t.a t.len t.cap, .int .i64 t.n, .int .i64 t.s], .agg #[.int .i64 u.k, .slice u.a u.len u.cap, .int .i64 u.n, .int .i64 u.s]] w fun e w' => e = .returned (.bool true) ∧ Below w.heap.size w w') := by
    intro h0 ho w h h'
    have e := TD.same (x := t.td) (y := u.td) ht.2.2.2.2.1 hu.2.2.2.2.1 ho h0
    have ek : t.td.k = u.td.k := by rw [e]
    have eb : t.td.bs = u.td.bs := by rw [e]
    have en : t.td.n = u.td.n := by rw [e]
    have es : t.td.s = u.td.s := by rw [e]
    exact sameTerm_like t u w ek eb en es h h'
  have rX := ord_cT.rng t.td u.td
  have eY := ord_cT.anti u.td t.td
  have eS := ord_cT.self t.td
  have rZ := ord_cT.rng u.td v.td
  have rW := ord_cT.rng t.td v.td
  have tr := ord_cT.trans t.td u.td v.td
  rw [eS] at Caa
  generalize t.td.cT u.td = X at *
  generalize u.td.cT t.td = Y at *
  generalize u.td.cT v.td = Z at *
  generalize t.td.cT v.td = W at *
  subst eY
  clear eS
  go_wp2_with fail
  generalize w2.alloc (.cells #[.int .i64 v.k, .slice v.a v.len v.cap, .int .i64 v.n, .int .i64 v.s] 24) = w3 at *
  have hw : Below w3.heap.size w3 w3 := Below.refl _ _
  obtain ⟨x0, x1, x2, x3, x4⟩ := id hA
  obtain ⟨y0, y1, y2, y3, y4⟩ := id hB
  have tok1 : True := trivial
  rcases rX with rfl | rfl | rfl
  · go_region_held3 (fun w' => w'.cell? ⟨w1.heap.size, 0, none⟩ = some (.int .i64 t.k) ∧ w'.cell? ⟨w1.heap.size, 1, none⟩ = some (.slice t.a t.len t.cap) ∧ w'.cell? ⟨w1.heap.size, 2, none⟩ = some (.int .i64 t.n) ∧ w'.cell? ⟨w1.heap.size, 3, none⟩ = some (.int .i64 t.s) ∧ w'.cell? ⟨w1.heap.size + 1, 0, none⟩ = some (.int .i64 u.k) ∧ w'.cell? ⟨w1.heap.size + 1, 1, none⟩ = some (.slice u.a u.len u.cap) ∧ w'.cell? ⟨w1.heap.size + 1, 2, none⟩ = some (.int .i64 u.n) ∧ w'.cell? ⟨w1.heap.size + 1, 3, none⟩ = some (.int .i64 u.s)) (simp [*, go_sem])
      (first
        | (go_at_call 7; have _t := tok1; refine (Cab _ (ht.2.2.below (bl_trans hw bl_drewT)) (hu.2.2.below (bl_trans hw bl_drewT))).mono ?_; rintro e w4 ⟨rfl, hb4⟩; clear tok1; have hb4 := bl_trans bl_drewT hb4; have hA4 := hA.below hb4; have hB4 := hB.below hb4; obtain ⟨x0, x1, x2, x3, x4⟩ := id hA4; obtain ⟨y0, y1, y2, y3, y4⟩ := id hB4)
        | (go_at_call 7; refine (Cba _ (hu.2.2.below (bl_trans hw hb4)) (ht.2.2.below (bl_trans hw hb4))).mono ?_; rintro e w5 ⟨rfl, hb5⟩; have hb5 := bl_trans hb4 hb5; have hA5 := hA.below hb5; have hB5 := hB.below hb5; obtain ⟨x0, x1, x2, x3, x4⟩ := id hA5; obtain ⟨y0, y1, y2, y3, y4⟩ := id hB5))
    replace hA := hA.below hb5
    replace hB := hB.below hb5
    replace hC := hC.below hb5
    replace hw := bl_trans hw hb5
    clear hA4 hB4 hA5 hB5 hb4 hb5
    clear x0 x1 x2 x3 x4 y0 y1 y2 y3 y4
    obtain ⟨x0, x1, x2, x3, x4⟩ := id hA
    obtain ⟨y0, y1, y2, y3, y4⟩ := id hB
    go_wp2_with fail
    refine (Caa _ (ht.2.2.below hw) (ht.2.2.below hw)).mono ?_
    rintro e w6 ⟨rfl, hb6⟩
    replace hA := hA.below hb6
    replace hB := hB.below hb6
    replace hC := hC.below hb6
    replace hw := bl_trans hw hb6
    clear hb6
    clear x0 x1 x2 x3 x4 y0 y1 y2 y3 y4
    obtain ⟨x0, x1, x2, x3, x4⟩ := id hA
    obtain ⟨y0, y1, y2, y3, y4⟩ := id hB
    have hA9 := hA
    have hB9 := hB
    have hC9 := hC
    have hw9 := hw
    clear x0 x1 x2 x3 x4 y0 y1 y2 y3 y4
    clear hA hB hC
    obtain ⟨x0, x1, x2, x3, x4⟩ := id hA9
    obtain ⟨y0, y1, y2, y3, y4⟩ := id hB9
    obtain ⟨z0, z1, z2, z3, z4⟩ := id hC9
    have tok2 : True := trivial
    go_wp2_with fail
    go_region_held3 (fun w' => w'.cell? ⟨w1.heap.size + 1, 0, none⟩ = some (.int .i64 u.k) ∧ w'.cell? ⟨w1.heap.size + 1, 1, none⟩ = some (.slice u.a u.len u.cap) ∧ w'.cell? ⟨w1.heap.size + 1, 2, none⟩ = some (.int .i64 u.n) ∧ w'.cell? ⟨w1.heap.size + 1, 3, none⟩ = some (.int .i64 u.s) ∧ w'.cell? ⟨w2.heap.size, 0, none⟩ = some (.int .i64 v.k) ∧ w'.cell? ⟨w2.heap.size, 1, none⟩ = some (.slice v.a v.len v.cap) ∧ w'.cell? ⟨w2.heap.size, 2, none⟩ = some (.int .i64 v.n) ∧ w'.cell? ⟨w2.heap.size, 3, none⟩ = some (.int .i64 v.s) ∧ w'.cell? ⟨w1.heap.size, 0, none⟩ = some (.int .i64 t.k) ∧ w'.cell? ⟨w1.heap.size, 1, none⟩ = some (.slice t.a t.len t.cap) ∧ w'.cell? ⟨w1.heap.size, 2, none⟩ = some (.int .i64 t.n) ∧ w'.cell? ⟨w1.heap.size, 3, none⟩ = some (.int .i64 t.s)) (simp [*, go_sem])
      (first
        | (go_at_call 7; have _t := tok2; refine (Cbc _ (hu.2.2.below (bl_trans hw9 bl_drewT)) (hv.2.2.below (bl_trans hw9 bl_drewT))).mono ?_; rintro e w10 ⟨rfl, hb10⟩; clear tok2; have hb10 := bl_trans bl_drewT hb10; have hA10 := hA9.below hb10; have hB10 := hB9.below hb10; have hC10 := hC9.below hb10; obtain ⟨x0, x1, x2, x3, x4⟩ := id hA10; obtain ⟨y0, y1, y2, y3, y4⟩ := id hB10; obtain ⟨z0, z1, z2, z3, z4⟩ := id hC10)
        | (go_at_call 7; refine (Cac _ (ht.2.2.below (bl_trans hw9 hb10)) (hv.2.2.below (bl_trans hw9 hb10))).mono ?_; rintro e w11 ⟨rfl, hb11⟩; have hb11 := bl_trans hb10 hb11; have hA11 := hA9.below hb11; have hB11 := hB9.below hb11; have hC11 := hC9.below hb11; obtain ⟨x0, x1, x2, x3, x4⟩ := id hA11; obtain ⟨y0, y1, y2, y3, y4⟩ := id hB11; obtain ⟨z0, z1, z2, z3, z4⟩ := id hC11))
    have hfin := bl_trans hw3 (bl_trans hw9 hb11)
    by_cases hz : Z ≤ 0
    · have hwz : W ≤ 0 := tr (by omega) hz
      go_wp2
      go_ret
      exact ⟨by simp [*], hfin⟩
    · go_wp2
      go_ret
      exact ⟨by simp [*], hfin⟩
  · go_region_held3 (fun w' => w'.cell? ⟨w1.heap.size, 0, none⟩ = some (.int .i64 t.k) ∧ w'.cell? ⟨w1.heap.size, 1, none⟩ = some (.slice t.a t.len t.cap) ∧ w'.cell? ⟨w1.heap.size, 2, none⟩ = some (.int .i64 t.n) ∧ w'.cell? ⟨w1.heap.size, 3, none⟩ = some (.int .i64 t.s) ∧ w'.cell? ⟨w1.heap.size + 1, 0, none⟩ = some (.int .i64 u.k) ∧ w'.cell? ⟨w1.heap.size + 1, 1, none⟩ = some (.slice u.a u.len u.cap) ∧ w'.cell? ⟨w1.heap.size + 1, 2, none⟩ = some (.int .i64 u.n) ∧ w'.cell? ⟨w1.heap.size + 1, 3, none⟩ = some (.int .i64 u.s)) (simp [*, go_sem])
      (first
        | (go_at_call 7; have _t := tok1; refine (Cab _ (ht.2.2.below (bl_trans hw bl_drewT)) (hu.2.2.below (bl_trans hw bl_drewT))).mono ?_; rintro e w4 ⟨rfl, hb4⟩; clear tok1; have hb4 := bl_trans bl_drewT hb4; have hA4 := hA.below hb4; have hB4 := hB.below hb4; obtain ⟨x0, x1, x2, x3, x4⟩ := id hA4; obtain ⟨y0, y1, y2, y3, y4⟩ := id hB4)
        | (go_at_call 7; refine (Cba _ (hu.2.2.below (bl_trans hw hb4)) (ht.2.2.below (bl_trans hw hb4))).mono ?_; rintro e w5 ⟨rfl, hb5⟩; have hb5 := bl_trans hb4 hb5; have hA5 := hA.below hb5; have hB5 := hB.below hb5; obtain ⟨x0, x1, x2, x3, x4⟩ := id hA5; obtain ⟨y0, y1, y2, y3, y4⟩ := id hB5))
    replace hA := hA.below hb5
    replace hB := hB.below hb5
    replace hC := hC.below hb5
    replace hw := bl_trans hw hb5
    clear hA4 hB4 hA5 hB5 hb4 hb5
    clear x0 x1 x2 x3 x4 y0 y1 y2 y3 y4
    obtain ⟨x0, x1, x2, x3, x4⟩ := id hA
    obtain ⟨y0, y1, y2, y3, y4⟩ := id hB
    go_wp2_with fail
    refine (Caa _ (ht.2.2.below hw) (ht.2.2.below hw)).mono ?_
    rintro e w6 ⟨rfl, hb6⟩
    replace hA := hA.below hb6
    replace hB := hB.below hb6
    replace hC := hC.below hb6
    replace hw := bl_trans hw hb6
    clear hb6
    clear x0 x1 x2 x3 x4 y0 y1 y2 y3 y4
    obtain ⟨x0, x1, x2, x3, x4⟩ := id hA
    obtain ⟨y0, y1, y2, y3, y4⟩ := id hB
    go_wp2_with fail
    refine (Ok _ (ht.2.2.below hw)).mono ?_
    rintro e w7 ⟨rfl, o7, rfl⟩
    have hA7 := hA.below (bl_a o7)
    have hB7 := hB.below (bl_a o7)
    have hw7 := bl_trans hw (bl_a o7)
    clear x0 x1 x2 x3 x4 y0 y1 y2 y3 y4
    obtain ⟨x0, x1, x2, x3, x4⟩ := id hA7
    obtain ⟨y0, y1, y2, y3, y4⟩ := id hB7
    cases eo : termOk t.k t.bs t.n t.s
    · have hA9 := hA7
      have hB9 := hB7
      have hC9 := hC.below (bl_a o7)
      have hw9 := hw7
      clear hA hB hC hA7 hB7 hw7
      obtain ⟨x0, x1, x2, x3, x4⟩ := id hA9
      obtain ⟨y0, y1, y2, y3, y4⟩ := id hB9
      obtain ⟨z0, z1, z2, z3, z4⟩ := id hC9
      have tok2 : True := trivial
      go_wp2_with fail
      go_region_held3 (fun w' => w'.cell? ⟨w1.heap.size + 1, 0, none⟩ = some (.int .i64 u.k) ∧ w'.cell? ⟨w1.heap.size + 1, 1, none⟩ = some (.slice u.a u.len u.cap) ∧ w'.cell? ⟨w1.heap.size + 1, 2, none⟩ = some (.int .i64 u.n) ∧ w'.cell? ⟨w1.heap.size + 1, 3, none⟩ = some (.int .i64 u.s) ∧ w'.cell? ⟨w2.heap.size, 0, none⟩ = some (.int .i64 v.k) ∧ w'.cell? ⟨w2.heap.size, 1, none⟩ = some (.slice v.a v.len v.cap) ∧ w'.cell? ⟨w2.heap.size, 2, none⟩ = some (.int .i64 v.n) ∧ w'.cell? ⟨w2.heap.size, 3, none⟩ = some (.int .i64 v.s) ∧ w'.cell? ⟨w1.heap.size, 0, none⟩ = some (.int .i64 t.k) ∧ w'.cell? ⟨w1.heap.size, 1, none⟩ = some (.slice t.a t.len t.cap) ∧ w'.cell? ⟨w1.heap.size, 2, none⟩ = some (.int .i64 t.n) ∧ w'.cell? ⟨w1.heap.size, 3, none⟩ = some (.int .i64 t.s)) (simp [*, go_sem])
        (first
          | (go_at_call 7; have _t := tok2; refine (Cbc _ (hu.2.2.below (bl_trans hw9 bl_drewT)) (hv.2.2.below (bl_trans hw9 bl_drewT))).mono ?_; rintro e w10 ⟨rfl, hb10⟩; clear tok2; have hb10 := bl_trans bl_drewT hb10; have hA10 := hA9.below hb10; have hB10 := hB9.below hb10; have hC10 := hC9.below hb10; obtain ⟨x0, x1, x2, x3, x4⟩ := id hA10; obtain ⟨y0, y1, y2, y3, y4⟩ := id hB10; obtain ⟨z0, z1, z2, z3, z4⟩ := id hC10)
          | (go_at_call 7; refine (Cac _ (ht.2.2.below (bl_trans hw9 hb10)) (hv.2.2.below (bl_trans hw9 hb10))).mono ?_; rintro e w11 ⟨rfl, hb11⟩; have hb11 := bl_trans hb10 hb11; have hA11 := hA9.below hb11; have hB11 := hB9.below hb11; have hC11 := hC9.below hb11; obtain ⟨x0, x1, x2, x3, x4⟩ := id hA11; obtain ⟨y0, y1, y2, y3, y4⟩ := id hB11; obtain ⟨z0, z1, z2, z3, z4⟩ := id hC11))
      have hfin := bl_trans hw3 (bl_trans hw9 hb11)
      by_cases hz : Z ≤ 0
      · have hwz : W ≤ 0 := tr (by omega) hz
        go_wp2
        go_ret
        exact ⟨by simp [*], hfin⟩
      · go_wp2
        go_ret
        exact ⟨by simp [*], hfin⟩
    · have Sa := HSame.out trivial eo
      go_wp2_with fail
      refine (Sa _ (ht.2.2.below hw7) (hu.2.2.below hw7)).mono ?_
      rintro e w8 ⟨rfl, hb8⟩
      have hb9 := bl_trans (bl_a o7) hb8
      clear x0 x1 x2 x3 x4 y0 y1 y2 y3 y4
      have hA9 := hA.below hb9
      have hB9 := hB.below hb9
      have hC9 := hC.below hb9
      have hw9 := bl_trans hw hb9
      clear hA hB hC hb9 hA7 hB7 hw7
      obtain ⟨x0, x1, x2, x3, x4⟩ := id hA9
      obtain ⟨y0, y1, y2, y3, y4⟩ := id hB9
      obtain ⟨z0, z1, z2, z3, z4⟩ := id hC9
      have tok2 : True := trivial
      go_wp2_with fail
      go_region_held3 (fun w' => w'.cell? ⟨w1.heap.size + 1, 0, none⟩ = some (.int .i64 u.k) ∧ w'.cell? ⟨w1.heap.size + 1, 1, none⟩ = some (.slice u.a u.len u.cap) ∧ w'.cell? ⟨w1.heap.size + 1, 2, none⟩ = some (.int .i64 u.n) ∧ w'.cell? ⟨w1.heap.size + 1, 3, none⟩ = some (.int .i64 u.s) ∧ w'.cell? ⟨w2.heap.size, 0, none⟩ = some (.int .i64 v.k) ∧ w'.cell? ⟨w2.heap.size, 1, none⟩ = some (.slice v.a v.len v.cap) ∧ w'.cell? ⟨w2.heap.size, 2, none⟩ = some (.int .i64 v.n) ∧ w'.cell? ⟨w2.heap.size, 3, none⟩ = some (.int .i64 v.s) ∧ w'.cell? ⟨w1.heap.size, 0, none⟩ = some (.int .i64 t.k) ∧ w'.cell? ⟨w1.heap.size, 1, none⟩ = some (.slice t.a t.len t.cap) ∧ w'.cell? ⟨w1.heap.size, 2, none⟩ = some (.int .i64 t.n) ∧ w'.cell? ⟨w1.heap.size, 3, none⟩ = some (.int .i64 t.s)) (simp [*, go_sem])
        (first
          | (go_at_call 7; have _t := tok2; refine (Cbc _ (hu.2.2.below (bl_trans hw9 bl_drewT)) (hv.2.2.below (bl_trans hw9 bl_drewT))).mono ?_; rintro e w10 ⟨rfl, hb10⟩; clear tok2; have hb10 := bl_trans bl_drewT hb10; have hA10 := hA9.below hb10; have hB10 := hB9.below hb10; have hC10 := hC9.below hb10; obtain ⟨x0, x1, x2, x3, x4⟩ := id hA10; obtain ⟨y0, y1, y2, y3, y4⟩ := id hB10; obtain ⟨z0, z1, z2, z3, z4⟩ := id hC10)
          | (go_at_call 7; refine (Cac _ (ht.2.2.below (bl_trans hw9 hb10)) (hv.2.2.below (bl_trans hw9 hb10))).mono ?_; rintro e w11 ⟨rfl, hb11⟩; have hb11 := bl_trans hb10 hb11; have hA11 := hA9.below hb11; have hB11 := hB9.below hb11; have hC11 := hC9.below hb11; obtain ⟨x0, x1, x2, x3, x4⟩ := id hA11; obtain ⟨y0, y1, y2, y3, y4⟩ := id hB11; obtain ⟨z0, z1, z2, z3, z4⟩ := id hC11))
      have hfin := bl_trans hw3 (bl_trans hw9 hb11)
      by_cases hz : Z ≤ 0
      · have hwz : W ≤ 0 := tr (by omega) hz
        go_wp2
        go_ret
        exact ⟨by simp [*], hfin⟩
      · go_wp2
        go_ret
        exact ⟨by simp [*], hfin⟩
  · go_region_held3 (fun w' => w'.cell? ⟨w1.heap.size, 0, none⟩ = some (.int .i64 t.k) ∧ w'.cell? ⟨w1.heap.size, 1, none⟩ = some (.slice t.a t.len t.cap) ∧ w'.cell? ⟨w1.heap.size, 2, none⟩ = some (.int .i64 t.n) ∧ w'.cell? ⟨w1.heap.size, 3, none⟩ = some (.int .i64 t.s) ∧ w'.cell? ⟨w1.heap.size + 1, 0, none⟩ = some (.int .i64 u.k) ∧ w'.cell? ⟨w1.heap.size + 1, 1, none⟩ = some (.slice u.a u.len u.cap) ∧ w'.cell? ⟨w1.heap.size + 1, 2, none⟩ = some (.int .i64 u.n) ∧ w'.cell? ⟨w1.heap.size + 1, 3, none⟩ = some (.int .i64 u.s)) (simp [*, go_sem])
      (first
        | (go_at_call 7; have _t := tok1; refine (Cab _ (ht.2.2.below (bl_trans hw bl_drewT)) (hu.2.2.below (bl_trans hw bl_drewT))).mono ?_; rintro e w4 ⟨rfl, hb4⟩; clear tok1; have hb4 := bl_trans bl_drewT hb4; have hA4 := hA.below hb4; have hB4 := hB.below hb4; obtain ⟨x0, x1, x2, x3, x4⟩ := id hA4; obtain ⟨y0, y1, y2, y3, y4⟩ := id hB4)
        | (go_at_call 7; refine (Cba _ (hu.2.2.below (bl_trans hw hb4)) (ht.2.2.below (bl_trans hw hb4))).mono ?_; rintro e w5 ⟨rfl, hb5⟩; have hb5 := bl_trans hb4 hb5; have hA5 := hA.below hb5; have hB5 := hB.below hb5; obtain ⟨x0, x1, x2, x3, x4⟩ := id hA5; obtain ⟨y0, y1, y2, y3, y4⟩ := id hB5))
    replace hA := hA.below hb5
    replace hB := hB.below hb5
    replace hC := hC.below hb5
    replace hw := bl_trans hw hb5
    clear hA4 hB4 hA5 hB5 hb4 hb5
    clear x0 x1 x2 x3 x4 y0 y1 y2 y3 y4
    obtain ⟨x0, x1, x2, x3, x4⟩ := id hA
    obtain ⟨y0, y1, y2, y3, y4⟩ := id hB
    go_wp2_with fail
    refine (Caa _ (ht.2.2.below hw) (ht.2.2.below hw)).mono ?_
    rintro e w6 ⟨rfl, hb6⟩
    replace hA := hA.below hb6
    replace hB := hB.below hb6
    replace hC := hC.below hb6
    replace hw := bl_trans hw hb6
    clear hb6
    clear x0 x1 x2 x3 x4 y0 y1 y2 y3 y4
    obtain ⟨x0, x1, x2, x3, x4⟩ := id hA
    obtain ⟨y0, y1, y2, y3, y4⟩ := id hB
    have hA9 := hA
    have hB9 := hB
    have hC9 := hC
    have hw9 := hw
    clear x0 x1 x2 x3 x4 y0 y1 y2 y3 y4
    clear hA hB hC
    obtain ⟨x0, x1, x2, x3, x4⟩ := id hA9
    obtain ⟨y0, y1, y2, y3, y4⟩ := id hB9
    obtain ⟨z0, z1, z2, z3, z4⟩ := id hC9
    have tok2 : True := trivial
    go_wp2_with fail
    go_region_held3 (fun w' => w'.cell? ⟨w1.heap.size + 1, 0, none⟩ = some (.int .i64 u.k) ∧ w'.cell? ⟨w1.heap.size + 1, 1, none⟩ = some (.slice u.a u.len u.cap) ∧ w'.cell? ⟨w1.heap.size + 1, 2, none⟩ = some (.int .i64 u.n) ∧ w'.cell? ⟨w1.heap.size + 1, 3, none⟩ = some (.int .i64 u.s) ∧ w'.cell? ⟨w2.heap.size, 0, none⟩ = some (.int .i64 v.k) ∧ w'.cell? ⟨w2.heap.size, 1, none⟩ = some (.slice v.a v.len v.cap) ∧ w'.cell? ⟨w2.heap.size, 2, none⟩ = some (.int .i64 v.n) ∧ w'.cell? ⟨w2.heap.size, 3, none⟩ = some (.int .i64 v.s) ∧ w'.cell? ⟨w1.heap.size, 0, none⟩ = some (.int .i64 t.k) ∧ w'.cell? ⟨w1.heap.size, 1, none⟩ = some (.slice t.a t.len t.cap) ∧ w'.cell? ⟨w1.heap.size, 2, none⟩ = some (.int .i64 t.n) ∧ w'.cell? ⟨w1.heap.size, 3, none⟩ = some (.int .i64 t.s)) (simp [*, go_sem])
      (first
        | (go_at_call 7; have _t := tok2; refine (Cbc _ (hu.2.2.below (bl_trans hw9 bl_drewT)) (hv.2.2.below (bl_trans hw9 bl_drewT))).mono ?_; rintro e w10 ⟨rfl, hb10⟩; clear tok2; have hb10 := bl_trans bl_drewT hb10; have hA10 := hA9.below hb10; have hB10 := hB9.below hb10; have hC10 := hC9.below hb10; obtain ⟨x0, x1, x2, x3, x4⟩ := id hA10; obtain ⟨y0, y1, y2, y3, y4⟩ := id hB10; obtain ⟨z0, z1, z2, z3, z4⟩ := id hC10)
        | (go_at_call 7; refine (Cac _ (ht.2.2.below (bl_trans hw9 hb10)) (hv.2.2.below (bl_trans hw9 hb10))).mono ?_; rintro e w11 ⟨rfl, hb11⟩; have hb11 := bl_trans hb10 hb11; have hA11 := hA9.below hb11; have hB11 := hB9.below hb11; have hC11 := hC9.below hb11; obtain ⟨x0, x1, x2, x3, x4⟩ := id hA11; obtain ⟨y0, y1, y2, y3, y4⟩ := id hB11; obtain ⟨z0, z1, z2, z3, z4⟩ := id hC11))
    have hfin := bl_trans hw3 (bl_trans hw9 hb11)
    go_wp2
    go_ret
    exact ⟨by simp [*], hfin⟩
end Go.Proofs.Ytjhobhkdncdnaaa
