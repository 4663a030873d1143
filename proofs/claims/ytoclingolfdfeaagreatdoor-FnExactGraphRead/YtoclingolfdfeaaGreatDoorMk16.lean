/- Texts put together: RdS RdT RdU -/
import Derived.Test.YtoclingolfdfeaaGreatDoorMk15
import Derived.Test.YtoclingolfdfeaaGreatDoorMk04
import Derived.Test.YtoclingolfdfeaaGreatDoorShs
import Derived.Test.YtoclingolfdfeaaGreatDoorMk03
import Derived.Deep.RegionHeld3
/- RdS -/
namespace Go.Proofs.YtoclingolfdfeaaGreatDoor
open Go.RowKit Go.Deep
set_option maxRecDepth 100000

theorem takeP_len {ok : PT → Bool} {l r : Toks} {e : Nat} {t : PT} (h : takeP ok l e = .ok (t, r)) : l.length = r.length + 1 := by
  cases l with
  | nil => cases h
  | cons x l =>
    simp only [takeP] at h
    split at h
    · simp only [Except.ok.injEq, Prod.mk.injEq] at h
      rw [← h.2]
      rfl
    · cases h
theorem triP_len {l r : Toks} {e : Nat} {t : TD × TD × TD} (h : triP l e = .ok (t, r)) : l.length = r.length + 4 := by
  unfold triP at h
  split at h
  · cases h
  · rename_i h1
    split at h
    · cases h
    · rename_i h2
      split at h
      · cases h
      · rename_i h3
        split at h
        · cases h
        · rename_i h4
          simp only [Except.ok.injEq, Prod.mk.injEq] at h
          rw [takeP_len h1, takeP_len h2, takeP_len h3, takeP_len h4, h.2]
theorem readF_fuel : ∀ (f g : Nat) (l : Toks) (e : Nat), l.length ≤ f → l.length ≤ g → readF f l e = readF g l e
  | 0, 0, _, _, _, _ => rfl
  | 0, g + 1, [], _, _, _ => rfl
  | 0, g + 1, b :: r, _, h, _ => by simp at h
  | f + 1, 0, [], _, _, _ => rfl
  | f + 1, 0, b :: r, _, _, h => by simp at h
  | f + 1, g + 1, [], _, _, _ => rfl
  | f + 1, g + 1, b :: r, e, h1, h2 => by
    simp only [List.length_cons] at h1 h2
    rw [readF, readF]
    cases ht : triP (b :: r) e with
    | error a => rfl
    | ok q =>
      obtain ⟨t, s⟩ := q
      have hl := triP_len ht
      simp only [List.length_cons] at hl
      simp only
      rw [readF_fuel f g s e (by omega) (by omega)]
def readR (l : Toks) (e : Nat) : Except Nat (List (TD × TD × TD)) := readF l.length l e
theorem readR_nil (e : Nat) : readR [] e = .ok [] := rfl
theorem readR_bad {l : Toks} {e a : Nat} (h : triP l e = .error a) (h0 : l ≠ []) : readR l e = .error a := by
  cases l with
  | nil => exact absurd rfl h0
  | cons x l =>
    unfold readR
    rw [List.length_cons, readF, h]
theorem readR_more {l r : Toks} {e : Nat} {t : TD × TD × TD} (h : triP l e = .ok (t, r)) : readR l e = (readR r e).map (t :: ·) := by
  have hl := triP_len h
  cases l with
  | nil => simp at hl
  | cons x l =>
    simp only [List.length_cons] at hl
    unfold readR
    rw [List.length_cons, readF, h]
    simp only
    rw [readF_fuel l.length _ _ _ (by omega) (Nat.le_refl _)]
def withT (pre : List (TD × TD × TD)) (x : Except Nat (List (TD × TD × TD))) : Except Nat (List (TD × TD × TD)) := x.map (pre ++ ·)
theorem withT_nil (x : Except Nat (List (TD × TD × TD))) : withT [] x = x := by cases x <;> rfl
theorem withT_map (pre : List (TD × TD × TD)) (y : TD × TD × TD) (x : Except Nat (List (TD × TD × TD))) : withT pre (x.map (y :: ·)) = withT (pre ++ [y]) x := by
  cases x with
  | error e => rfl
  | ok l =>
    show Except.ok (pre ++ (y :: l)) = Except.ok (pre ++ [y] ++ l)
    simp

/-- Three tokens as a triple. -/
abbrev Q3 := TV × TV × TV
def Q3.g (q : Q3) : G1 := ⟨q.1.t.t, q.2.1.t.t, q.2.2.t.t, q.1.t.b, q.2.1.t.b, q.2.2.t.b⟩
def Q3.tds (q : Q3) : TD × TD × TD := (q.1.t.td, q.2.1.t.td, q.2.2.t.td)
def Q3.ok (q : Q3) : Prop := okSubj q.1.pt.2 = true ∧ okProp q.2.1.pt.2 = true ∧ okTerm q.2.2.pt.2 = true
def Q3.tvs (q : Q3) : List TV := [q.1, q.2.1, q.2.2]
/-- What triples comes to. -/
def TriplesRes (w0 : World) (n : Nat) (L : List TV) (w : World) (e : Ending) (w' : World) : Prop :=
  Below w0.heap.size w0 w' ∧ ((∃ a : Nat, readR (L.map TV.pt) n = .error a ∧ e = refused 3 a) ∨ ∃ (lv : Value) (ql : List Q3), e = .returned lv ∧ OwnG w' w.heap.size lv (ql.map Q3.g) ∧ readR (L.map TV.pt) n = .ok (ql.map Q3.tds) ∧ (∀ q ∈ ql, q.ok) ∧ (ql.flatMap Q3.tvs).Sublist L ∧ (∀ x ∈ L, Nw w' w0.heap.size x.t.t.a x.t.t.len x.t.b) ∧ ql.length ≤ L.length)
theorem sub_more {L : List TV} {k : Nat} {m : List TV} {x y z : TV} (h : m.Sublist (L.take k)) (hx : L[k]? = some x) (hy : L[k + 1]? = some y) (hz : L[k + 1 + 1]? = some z) : (m ++ [x, y, z]).Sublist (L.take (k + 4)) := by
  have e : L.take (k + 1 + 1 + 1) = L.take k ++ [x, y, z] := by
    rw [List.take_add_one, List.take_add_one, List.take_add_one, hx, hy, hz]
    simp
  have h1 : (m ++ [x, y, z]).Sublist (L.take (k + 1 + 1 + 1)) := by
    rw [e]
    exact h.append (List.Sublist.refl _)
  exact h1.trans (List.take_sublist_take_left (by omega))
theorem newsQ (w : World) (q : Q3) : ∀ j u, (flatG [q.g])[j]? = some u → (w.alloc (.cells (e12 q.g.t q.g.u q.g.v).toArray 36)).cell? ((⟨w.heap.size, 0, none⟩ : Addr).add j) = some u := by
  intro j u hj
  have ea : (⟨w.heap.size, 0, none⟩ : Addr).add j = ⟨w.heap.size, j, none⟩ := by
    by_cases h0 : j = 0 <;> simp [Addr.add, h0]
  have hj' : (e12 q.g.t q.g.u q.g.v)[j]? = some u := by simpa [flatG, eG] using hj
  rw [ea]
  simp only [go_sem]
  simpa using hj'
set_option maxHeartbeats 4000000 in
theorem triples_any (w0 w : World) (rd : Nat) (n : Nat) (v : Value) (L : List TV) (h : Rdr w0 rd 0 n w v L) (hK : ∀ x ∈ L, TVok x) (hn : L.length ≤ 1048576) :
    Calls Tryz.prog 40 #[.pointer (some ⟨rd, 0, none⟩)] w (TriplesRes w0 n L w) := by
  have HK : Hid (∀ x ∈ L, TVok x) := hK
  have HRi : Hid (Rdr w0 rd 0 n w v L) := h
  have hrd := h.ld
  have hwl : w0.heap.size ≤ w.heap.size := h.bel.size
  clear hK h
  go_enter Tryz.func40, Tryz.ntmps40
  go_wp2_with fail
  go_loopw [3] (fun x wr => ∃ (k : Nat) (ql : List Q3) (a : Option Addr) (m cap : Nat), x = .slice a m cap ∧ Hid (m = ql.length) ∧ Hid (OwnG wr w.heap.size (.slice a m cap) (ql.map Q3.g)) ∧ Hid (Rdr w0 rd k n wr v L) ∧ Hid (Past rd w wr) ∧ k ≤ L.length ∧ Hid (withT (ql.map Q3.tds) (readR ((L.map TV.pt).drop k) n) = readR (L.map TV.pt) n) ∧ Hid (∀ q ∈ ql, q.ok) ∧ Hid ((ql.flatMap Q3.tvs).Sublist (L.take k)) ∧ m ≤ k)
    (fun _ wr => L.length - ((wr.cell? ⟨rd, 1, none⟩).elim 0 intOf).toNat)
  case atStart => exact ⟨0, [], none, 0, 0, rfl, rfl, OwnG.nil _ _, HRi, Past.refl _ _, Nat.zero_le _, by show _ = _; rw [List.map_nil, withT_nil, List.drop_zero], fun q hq => absurd hq List.not_mem_nil, List.nil_sublist _, Nat.le_refl _⟩
  case round =>
    obtain ⟨k, ql, a, m, cap, rfl, HM, HO, HR, HP, hk, HX, HQ, HS, hmk⟩ := hrel
    go_wp2_with fail
    refine (atEnd_any w0 wr rd k n v L HR.out).mono ?_
    rintro e w1 ⟨rfl, q, rfl⟩
    by_cases hend : k = L.length
    · have hde : decide (k = L.length) = true := decide_eq_true hend
      rw [hde]
      go_wp2_with fail
      go_ret
      have hb := below_drewN (Below.refl wr.heap.size wr) q
      refine ⟨HR.out.bel.trans (hb.mono (HR.out.bel.size)), .inr ⟨_, ql, rfl, HO.out.below hb, ?_, HQ.out, HS.out.trans (List.take_sublist _ _), fun x hx => (HR.out.txt x hx).below hb, ?_⟩⟩
      · rw [← HX.out, List.drop_of_length_le (by simp [hend]), readR_nil]
        show Except.ok (ql.map Q3.tds ++ []) = Except.ok (ql.map Q3.tds)
        rw [List.append_nil]
      · have := HM.out
        omega
    · have hde : decide (k = L.length) = false := decide_eq_false hend
      rw [hde]
      have HB : Hid (Below wr.heap.size wr (wr.drewN q)) := below_drewN (Below.refl _ _) q
      have hm1 : ((wr.cell? ⟨rd, 1, none⟩).elim 0 intOf).toNat = k := by rw [HR.out.r1]; simp [intOf]
      have HM1 : Hid (((wr.cell? ⟨rd, 1, none⟩).elim 0 intOf).toNat = k) := hm1
      have HO1 : Hid (OwnG (wr.drewN q) w.heap.size (.slice a m cap) (ql.map Q3.g)) := HO.out.below HB.out
      have HR1 : Hid (Rdr w0 rd k n (wr.drewN q) v L) := HR.out.below HB.out
      have HP1 : Hid (Past rd w (wr.drewN q)) := HP.out.trans (Past.of_below HB.out)
      clear hm1 HO HR HP HB
      generalize wr.drewN q = wq at *
      go_wp2_with fail
      refine (triple_any w0 wq rd k n v L HR1.out HK.out hk hn).mono ?_
      rintro e w2 ⟨hp2, ⟨aa, ht, rfl⟩ | ⟨x, y, z, hx, hy, hz, k1, k2, k3, hl4, ht, rfl, hr2⟩⟩
      · have HT : Hid (readR (L.map TV.pt) n = .error aa) := by
          show _ = _
          rw [← HX.out, readR_bad ht (by intro e; have := congrArg List.length e; simp at this; omega)]
          rfl
        have HB2 : Hid (Below w0.heap.size w0 w2) := HR1.out.bel.trans (hp2.below HRi.out.hd HR1.out.bel.size)
        unfold refused
        clear ht hp2
        go_wp2_with fail
        exact ⟨rfl, HB2.out, .inl ⟨aa, HT.out, rfl⟩⟩
      · have HO2 : Hid (OwnG (w2.alloc (.cells #[.int .i64 x.t.t.k, .slice x.t.t.a x.t.t.len x.t.t.cap, .int .i64 x.t.t.n, .int .i64 x.t.t.s, .int .i64 y.t.t.k, .slice y.t.t.a y.t.t.len y.t.t.cap, .int .i64 y.t.t.n, .int .i64 y.t.t.s, .int .i64 z.t.t.k, .slice z.t.t.a z.t.t.len z.t.t.cap, .int .i64 z.t.t.n, .int .i64 z.t.t.s] 36)) w.heap.size (.slice a m cap) (ql.map Q3.g)) := (HO1.out.past hp2 hrd).below (bl_a _)
        have HN2 : Hid (∀ j u, (flatG [Q3.g (x, y, z)])[j]? = some u → (w2.alloc (.cells #[.int .i64 x.t.t.k, .slice x.t.t.a x.t.t.len x.t.t.cap, .int .i64 x.t.t.n, .int .i64 x.t.t.s, .int .i64 y.t.t.k, .slice y.t.t.a y.t.t.len y.t.t.cap, .int .i64 y.t.t.n, .int .i64 y.t.t.s, .int .i64 z.t.t.k, .slice z.t.t.a z.t.t.len z.t.t.cap, .int .i64 z.t.t.n, .int .i64 z.t.t.s] 36)).cell? ((⟨w2.heap.size, 0, none⟩ : Addr).add j) = some u) := newsQ w2 (x, y, z)
        have HP2 : Hid (Past rd w w2) := HP1.out.trans hp2
        have HR2 : Hid (Rdr w0 rd (k + 4) n w2 v L) := hr2
        have hs2 : w.heap.size ≤ w2.heap.size := HP2.out.size
        have hB2 : w.heap.size ≤ (w2.alloc (.cells #[.int .i64 x.t.t.k, .slice x.t.t.a x.t.t.len x.t.t.cap, .int .i64 x.t.t.n, .int .i64 x.t.t.s, .int .i64 y.t.t.k, .slice y.t.t.a y.t.t.len y.t.t.cap, .int .i64 y.t.t.n, .int .i64 y.t.t.s, .int .i64 z.t.t.k, .slice z.t.t.a z.t.t.len z.t.t.cap, .int .i64 z.t.t.n, .int .i64 z.t.t.s] 36)).heap.size := by simp; omega
        have hml : (ql.map Q3.g).length + 1 = m + 1 := by rw [List.length_map, HM.out]
        have HF : Hid (withT ((ql ++ [(x, y, z)]).map Q3.tds) (readR ((L.map TV.pt).drop (k + 4)) n) = readR (L.map TV.pt) n) := by
          show _ = _
          rw [← HX.out, readR_more ht, withT_map, List.map_append]
          rfl
        have HQ2 : Hid (∀ q ∈ ql ++ [(x, y, z)], q.ok) := fun q hq => by
          rcases List.mem_append.1 hq with hq | hq
          · exact HQ.out q hq
          · rw [List.mem_singleton.1 hq]
            exact ⟨k1, k2, k3⟩
        have HS2 : Hid (((ql ++ [(x, y, z)]).flatMap Q3.tvs).Sublist (L.take (k + 4))) := by
          show List.Sublist _ _
          rw [List.flatMap_append]
          exact sub_more HS.out hx hy hz
        clear hp2 hr2 ht hx hy hz k1 k2 k3 HX HQ HS HO1 HP1 HR1
        go_wp2_with (refine appGs rfl (.tmp 7) (.tmp 10) rfl w.heap.size (.slice a m cap) (ql.map Q3.g) rfl HO2 ⟨w2.heap.size, 0, none⟩ 1 1 [Q3.g (x, y, z)] rfl rfl HN2 (by omega) (m + 1) hml _ rfl (by omega) hB2 ?_; intro g3 cap3 w3 HO3 HG3 HB3)
        have hb3 : Below w.heap.size w2 w3 := (Below.mono (bl_a _) hs2).trans HB3.out
        have hr3 := HR2.out
        have hp3 : Past rd w w3 := ⟨hb3.os.trans HP2.out.os, hb3.tape.trans HP2.out.tape, hb3.output.trans HP2.out.output, Nat.le_trans hs2 hb3.size, fun b h1 h2 => (hb3.block b h1).trans (HP2.out.block b h1 h2)⟩
        have HR3 : Hid (Rdr w0 rd (k + 4) n w3 v L) := HRi.out.past hp3 ((hb3.cell (p := ⟨rd, 0, none⟩) hrd).trans hr3.r0) ((hb3.cell (p := ⟨rd, 1, none⟩) hrd).trans hr3.r1) ((hb3.cell (p := ⟨rd, 2, none⟩) hrd).trans hr3.r2) ((hb3.frozen (p := ⟨rd, 1, none⟩) hrd).trans hr3.f1)
        have HP3 : Hid (Past rd w w3) := hp3
        clear hb3 hr3 hp3
        go_roundw
        case rel =>
          refine ⟨k + 4, ql ++ [(x, y, z)], some ⟨g3, 0, none⟩, m + 1, cap3, rfl, ?_, ?_, HR3, HP3, hl4, HF, HQ2, HS2, by omega⟩
          · show _ = _
            rw [List.length_append, HM.out]
            rfl
          · show OwnG _ _ _ _
            rw [List.map_append]
            exact HO3.out
        case measure =>
          rw [HM1.out, HR3.out.r1]
          simp [intOf]
          omega
end Go.Proofs.YtoclingolfdfeaaGreatDoor

/- RdT -/
namespace Go.Proofs.YtoclingolfdfeaaGreatDoor
open Go.RowKit Go.Deep Go.Sort Go.Lib
set_option maxRecDepth 100000

theorem gr_drew3 {w : World} : Gr w w.drew := gr_drew (Gr.refl _)
theorem implCompare_tmg (t t' : Tm) (b b' : List Int) (w : World) (f : t.fits) (f' : t'.fits) (o : termOk t.k b t.n t.s = true) (o' : termOk t'.k b' t'.n t'.s = true) (h : Bs w t.a t.len b) (h' : Bs w t'.a t'.len b') :
    Calls Tryz.prog 74 #[.agg #[.int .i64 t.k, .slice t.a t.len t.cap, .int .i64 t.n, .int .i64 t.s], .agg #[.int .i64 t'.k, .slice t'.a t'.len t'.cap, .int .i64 t'.n, .int .i64 t'.s]] w fun e w' => e = .returned (.int .i64 (tcmp t t' b b')) ∧ Gr w w' := by
  have := implCompare_gr t.k t.n t.s t'.k t'.n t'.s t.a t'.a t.len t.cap t'.len t'.cap b b' w h h' f.1 f.2.1 f.2.2.1 f.2.2.2 f'.1 f'.2.1 f'.2.2.1 f'.2.2.2
  rw [o, o'] at this
  exact this

set_option maxRecDepth 20000 in
set_option maxHeartbeats 2000000 in
theorem compareTriples_gr (t u v t' u' v' : Tm) (bt bu bv bt' bu' bv' : List Int) (w : World) (ft : t.fits) (fu : u.fits) (fv : v.fits) (ft' : t'.fits) (fu' : u'.fits) (fv' : v'.fits)
    (o : tripleOk t u v bt bu bv = true) (o' : tripleOk t' u' v' bt' bu' bv' = true) (hT : Bs w t.a t.len bt) (hU : Bs w u.a u.len bu) (hV : Bs w v.a v.len bv) (hT' : Bs w t'.a t'.len bt') (hU' : Bs w u'.a u'.len bu') (hV' : Bs w v'.a v'.len bv') :
    Calls Tryz.prog 42 #[.agg #[.int .i64 t.k, .slice t.a t.len t.cap, .int .i64 t.n, .int .i64 t.s, .int .i64 u.k, .slice u.a u.len u.cap, .int .i64 u.n, .int .i64 u.s, .int .i64 v.k, .slice v.a v.len v.cap, .int .i64 v.n, .int .i64 v.s], .agg #[.int .i64 t'.k, .slice t'.a t'.len t'.cap, .int .i64 t'.n, .int .i64 t'.s, .int .i64 u'.k, .slice u'.a u'.len u'.cap, .int .i64 u'.n, .int .i64 u'.s, .int .i64 v'.k, .slice v'.a v'.len v'.cap, .int .i64 v'.n, .int .i64 v'.s]] w fun e w' => e = .returned (.int .i64 (tcmp3 t u v t' u' v' bt bu bv bt' bu' bv')) ∧ Gr w w' := by
  obtain ⟨o1, o2, o3⟩ := tripleOk_out o
  obtain ⟨o1', o2', o3'⟩ := tripleOk_out o'
  have C1 := fun w h h' => implCompare_tmg t t' bt bt' w ft ft' o1 o1' h h'
  have C2 := fun w h h' => implCompare_tmg u u' bu bu' w fu fu' o2 o2' h h'
  have C3 := fun w h h' => implCompare_tmg v v' bv bv' w fv fv' o3 o3' h h'
  clear o o' o1 o2 o3 o1' o2' o3' ft fu fv ft' fu' fv'
  unfold tcmp3
  generalize tcmp t t' bt bt' = c1 at *
  generalize tcmp u u' bu bu' = c2 at *
  generalize tcmp v v' bv bv' = c3 at *
  have tok1 : True := trivial
  have tok2 : True := trivial
  have tok3 : True := trivial
  have hA : ∀ T, At12 ((w.alloc (.cells (cells12 t u v) T)).alloc (.cells (cells12 t' u' v') T)) w.heap.size t u v := fun T => (Own12.at w w.heap.size t u v T rfl).1.below (bl_a _)
  have hX : ∀ T, At12 ((w.alloc (.cells (cells12 t u v) T)).alloc (.cells (cells12 t' u' v') T)) (w.heap.size + 1) t' u' v' := fun T => (Own12.at (w.alloc _) (w.heap.size + 1) t' u' v' T (by simp)).1
  replace hA := hA 36
  replace hX := hX 36
  have hw : Gr w ((w.alloc (.cells (cells12 t u v) 36)).alloc (.cells (cells12 t' u' v') 36)) := gr_alloc (gr_a _) _
  go_enter Tryz.func42, Tryz.ntmps42
  go_wp2_with fail
  change Code.wp _ _ _ _ ((w.alloc (.cells (cells12 t u v) 36)).alloc (.cells (cells12 t' u' v') 36))
  generalize (w.alloc (.cells (cells12 t u v) 36)).alloc (.cells (cells12 t' u' v') 36) = w0 at *
  obtain ⟨_, ⟨x0, x1, x2, x3⟩, ⟨x4, x5, x6, x7⟩, ⟨x8, x9, xa, xb⟩⟩ := id hA
  obtain ⟨_, ⟨y0, y1, y2, y3⟩, ⟨y4, y5, y6, y7⟩, ⟨y8, y9, ya, yb⟩⟩ := id hX
  go_region_held3 (fun w' => w'.cell? ⟨w.heap.size, 0, none⟩ = some (.int .i64 t.k) ∧ w'.cell? ⟨w.heap.size, 1, none⟩ = some (.slice t.a t.len t.cap) ∧ w'.cell? ⟨w.heap.size, 2, none⟩ = some (.int .i64 t.n) ∧ w'.cell? ⟨w.heap.size, 3, none⟩ = some (.int .i64 t.s) ∧ w'.cell? ⟨w.heap.size, 4, none⟩ = some (.int .i64 u.k) ∧ w'.cell? ⟨w.heap.size, 5, none⟩ = some (.slice u.a u.len u.cap) ∧ w'.cell? ⟨w.heap.size, 6, none⟩ = some (.int .i64 u.n) ∧ w'.cell? ⟨w.heap.size, 7, none⟩ = some (.int .i64 u.s) ∧ w'.cell? ⟨w.heap.size, 8, none⟩ = some (.int .i64 v.k) ∧ w'.cell? ⟨w.heap.size, 9, none⟩ = some (.slice v.a v.len v.cap) ∧ w'.cell? ⟨w.heap.size, 10, none⟩ = some (.int .i64 v.n) ∧ w'.cell? ⟨w.heap.size, 11, none⟩ = some (.int .i64 v.s) ∧ w'.cell? ⟨w.heap.size + 1, 0, none⟩ = some (.int .i64 t'.k) ∧ w'.cell? ⟨w.heap.size + 1, 1, none⟩ = some (.slice t'.a t'.len t'.cap) ∧ w'.cell? ⟨w.heap.size + 1, 2, none⟩ = some (.int .i64 t'.n) ∧ w'.cell? ⟨w.heap.size + 1, 3, none⟩ = some (.int .i64 t'.s) ∧ w'.cell? ⟨w.heap.size + 1, 4, none⟩ = some (.int .i64 u'.k) ∧ w'.cell? ⟨w.heap.size + 1, 5, none⟩ = some (.slice u'.a u'.len u'.cap) ∧ w'.cell? ⟨w.heap.size + 1, 6, none⟩ = some (.int .i64 u'.n) ∧ w'.cell? ⟨w.heap.size + 1, 7, none⟩ = some (.int .i64 u'.s) ∧ w'.cell? ⟨w.heap.size + 1, 8, none⟩ = some (.int .i64 v'.k) ∧ w'.cell? ⟨w.heap.size + 1, 9, none⟩ = some (.slice v'.a v'.len v'.cap) ∧ w'.cell? ⟨w.heap.size + 1, 10, none⟩ = some (.int .i64 v'.n) ∧ w'.cell? ⟨w.heap.size + 1, 11, none⟩ = some (.int .i64 v'.s)) (simp [*, go_sem])
    (first
      | (go_at_call 74; have _t := tok1; refine (C1 _ (hT.gr (gr_trans hw gr_drew3)) (hT'.gr (gr_trans hw gr_drew3))).mono ?_; rintro e w1 ⟨rfl, hb1⟩; clear tok1; have hb1 := gr_trans gr_drew3 hb1; have hA1 := hA.below hb1.bl; have hX1 := hX.below hb1.bl; have hw1 := gr_trans hw hb1; obtain ⟨_, ⟨x0, x1, x2, x3⟩, ⟨x4, x5, x6, x7⟩, ⟨x8, x9, xa, xb⟩⟩ := id hA1; obtain ⟨_, ⟨y0, y1, y2, y3⟩, ⟨y4, y5, y6, y7⟩, ⟨y8, y9, ya, yb⟩⟩ := id hX1)
      | (go_at_call 74; have _t := tok2; refine (C2 _ (hU.gr hw1) (hU'.gr hw1)).mono ?_; rintro e w2 ⟨rfl, hb2⟩; clear tok2; have hA2 := hA1.below hb2.bl; have hX2 := hX1.below hb2.bl; have hw2 := gr_trans hw1 hb2; obtain ⟨_, ⟨x0, x1, x2, x3⟩, ⟨x4, x5, x6, x7⟩, ⟨x8, x9, xa, xb⟩⟩ := id hA2; obtain ⟨_, ⟨y0, y1, y2, y3⟩, ⟨y4, y5, y6, y7⟩, ⟨y8, y9, ya, yb⟩⟩ := id hX2)
      | (go_at_call 74; have _t := tok3; refine (C3 _ (hV.gr hw2) (hV'.gr hw2)).mono ?_; rintro e w3 ⟨rfl, hb3⟩; clear tok3; have hA3 := hA2.below hb3.bl; have hX3 := hX2.below hb3.bl; have hw3 := gr_trans hw2 hb3; obtain ⟨_, ⟨x0, x1, x2, x3⟩, ⟨x4, x5, x6, x7⟩, ⟨x8, x9, xa, xb⟩⟩ := id hA3; obtain ⟨_, ⟨y0, y1, y2, y3⟩, ⟨y4, y5, y6, y7⟩, ⟨y8, y9, ya, yb⟩⟩ := id hX3)
      | (go_at_call 73; refine (cmpOr3_any c1 c2 c3 _ _ (by simp [go_sem]) (by simp [go_sem]) (by simp [go_sem])).mono ?_; rintro e w4 ⟨rfl, rfl⟩))
  go_wp2
  go_ret
  exact ⟨rfl, gr_alloc hw3 _⟩
end Go.Proofs.YtoclingolfdfeaaGreatDoor

/- RdU -/
namespace Go.Proofs.YtoclingolfdfeaaGreatDoor
open Go.RowKit Go.Deep Go.Sort Go.Lib
set_option maxRecDepth 100000

abbrev T3 := TD × TD × TD
def G1.td3 (x : G1) : T3 := (⟨x.t.k, x.bt, x.t.n, x.t.s⟩, ⟨x.u.k, x.bu, x.u.n, x.u.s⟩, ⟨x.v.k, x.bv, x.v.n, x.v.s⟩)
def cmpD (x y : T3) : Int := orI (x.1.cmp y.1) (orI (x.2.1.cmp y.2.1) (x.2.2.cmp y.2.2))
theorem Ord3.on {α β : Type} {c : β → β → Int} (h : Ord3 c) (f : α → β) : Ord3 (fun x y => c (f x) (f y)) := ⟨fun _ _ => h.rng _ _, fun _ _ => h.anti _ _, fun _ _ _ => h.trans _ _ _⟩
theorem ord_cmpD : Ord3 cmpD := Ord3.lex (ord_cmp.on fun x : T3 => x.1) (Ord3.lex (ord_cmp.on fun x : T3 => x.2.1) (ord_cmp.on fun x : T3 => x.2.2))
/-- A triple that may be. -/
def G1.good (x : G1) : Prop := x.t.fits ∧ x.u.fits ∧ x.v.fits ∧ tripleOk x.t x.u x.v x.bt x.bu x.bv = true
def G1.lies (x : G1) (w : World) : Prop := Bs w x.t.a x.t.len x.bt ∧ Bs w x.u.a x.u.len x.bu ∧ Bs w x.v.a x.v.len x.bv
theorem tcmp3_td (x y : G1) : tcmp3 x.t x.u x.v y.t y.u y.v x.bt x.bu x.bv y.bt y.bu y.bv = cmpD x.td3 y.td3 := rfl
theorem compareTriples_g1 (x y : G1) (w : World) (hx : x.good) (hy : y.good) (h : x.lies w) (h' : y.lies w) :
    Calls Tryz.prog 42 #[.agg (eG x).toArray, .agg (eG y).toArray] w fun e w' => e = .returned (.int .i64 (cmpD x.td3 y.td3)) ∧ Gr w w' := by
  have := compareTriples_gr x.t x.u x.v y.t y.u y.v x.bt x.bu x.bv y.bt y.bu y.bv w hx.1 hx.2.1 hx.2.2.1 hy.1 hy.2.1 hy.2.2.1 hx.2.2.2 hy.2.2.2 h.1 h.2.1 h.2.2 h'.1 h'.2.1 h'.2.2
  rw [tcmp3_td] at this
  exact this
theorem swo_cmpD {α : Type} (f : α → T3) : SWO (ltOf fun x y : α => cmpD (f x) (f y)) := by
  have h := ord_cmpD
  refine ⟨fun x => ?_, fun x y z h1 h2 => ?_, fun x y z h1 h2 => ?_⟩
  · have := h.self (f x)
    exact decide_eq_false (show ¬ cmpD (f x) (f x) < 0 by omega)
  · have h1 : cmpD (f x) (f y) < 0 := of_decide_eq_true h1
    have h2 : cmpD (f y) (f z) < 0 := of_decide_eq_true h2
    refine decide_eq_true (show cmpD (f x) (f z) < 0 from ?_)
    have h3 := h.trans (f x) (f y) (f z) (by omega) (by omega)
    have a1 := h.anti (f x) (f z)
    have a2 := h.anti (f y) (f z)
    have a3 := h.anti (f x) (f y)
    have : ¬ cmpD (f z) (f x) ≤ 0 := fun h4 => by
      have := h.trans (f z) (f x) (f y) h4 (by omega)
      omega
    omega
  · have h1 : ¬ cmpD (f x) (f y) < 0 := of_decide_eq_false h1
    have h2 : ¬ cmpD (f y) (f z) < 0 := of_decide_eq_false h2
    have a1 := h.anti (f x) (f z)
    have a2 := h.anti (f y) (f z)
    have a3 := h.anti (f x) (f y)
    have h3 := h.trans (f z) (f y) (f x) (by omega) (by omega)
    exact decide_eq_false (show ¬ cmpD (f x) (f z) < 0 by omega)

/-- slices.SortFunc(list, compareTriples): over a row of the call's own. -/
theorem sortG (B g n cap : Nat) (l : List G1) (w : World) (hO : OwnG w B (.slice (some ⟨g, 0, none⟩) n cap) l) (hl : l.length = n) (hn : n ≤ 1000000) (h0 : l ≠ [])
    (hg : ∀ y ∈ l, y.good ∧ ∀ W, Below B w W → y.lies W) :
    Calls Tryz.prog 41 #[.slice (some ⟨g, 0, none⟩) n cap, .func (.func 42) #[] #[]] w fun e w' => e = .returned (.tuple #[]) ∧ ∃ l' : List G1, l'.Perm l ∧ (l'.map G1.td3).Pairwise (fun x y => cmpD x y ≤ 0) ∧ OwnG w' B (.slice (some ⟨g, 0, none⟩) n cap) l' ∧ Below B w w' := by
  obtain ⟨hB, hgl⟩ := hO.2 g rfl
  obtain ⟨cur, hh, hle, hmx, hcs, htk⟩ : ∃ cur, w.heap[g]? = some (.cells cur 36 (0, 0)) ∧ n ≤ cap ∧ cap ≤ maxLen ∧ cur.size = cap * 12 ∧ cur.toList.take (n * 12) = flatG l := by
    rcases hO.1.2 with ⟨h, _⟩ | ⟨g', c', cur, hv, _, hh, h2, h3, h4, h5⟩
    · cases h
    · cases hv
      exact ⟨cur, hh, by omega, h3, h4, by rw [hl] at h5; exact h5⟩
  let P : G1 → Prop := fun y => y.good ∧ ∀ W, Below B w W → y.lies W
  let α := { y : G1 // P y }
  obtain ⟨x0, rest, rfl⟩ := List.exists_cons_of_ne_nil h0
  haveI : Inhabited α := ⟨⟨x0, hg x0 (List.mem_cons_self ..)⟩⟩
  let enc : α → List Value := fun y => eG y.1
  have evm : ∀ l : List α, flatG (l.map Subtype.val) = l.flatMap enc := fun l => by
    unfold flatG
    rw [List.flatMap_map]
  obtain ⟨ls, els⟩ : ∃ ls : List α, ls.map Subtype.val = x0 :: rest := ⟨(x0 :: rest).attach.map fun y => ⟨y.1, hg y.1 y.2⟩, by
    rw [List.map_map]
    exact List.attach_map_subtype_val _⟩
  have ef : ls.flatMap enc = flatG (x0 :: rest) := by rw [← els, evm]
  have elen : ls.length = n := by rw [← hl, ← els, List.length_map]
  have hk : ∀ y : α, (enc y).length = 12 := fun _ => rfl
  have h1 : ∀ y : α, ∀ v ∈ enc y, v.oneCell' = true := fun y v hv => by
    simp only [enc, eG, e12, List.mem_cons, List.not_mem_nil, or_false] at hv
    rcases hv with rfl | rfl | rfl | rfl | rfl | rfl | rfl | rfl | rfl | rfl | rfl | rfl <;> rfl
  have hH : HoldsK enc 12 w g 0 ls.toArray := holdsK_own enc 12 hk hh (by rw [elen, htk, ef])
  have hcmp : CmpLays Tryz.prog 42 #[] enc 12 (fun x y => cmpD x.1.td3 y.1.td3) g 0 ls.toArray.size w := by
    intro m os dk hs x y
    have S : SWK enc 12 w g 0 dk (sortWorldK enc 12 w g 0 m dk os) := ⟨m, os, rfl⟩
    generalize sortWorldK enc 12 w g 0 m dk os = W at S
    have hb := below_swk enc 12 S hB hgl
    have bs : ∀ y : α, y.1.lies W := fun y => y.2.2 W hb
    exact (compareTriples_g1 x.1 y.1 W x.2.1 y.2.1 (bs x) (bs y)).mono fun _ _ h => ⟨h.1, h.2.grown⟩
  have key := AnyQ.slices_SortFunc (α := α) Tryz.sortTriple 12 (fun w => by kernel_rfl) (fun w => (run_sizeOf w (Option.map_eq_some_iff.1 Tryz.infoG36).choose_spec.1).trans (by rw [show Tryz.prog.cellsOf 36 = 12 by kernel_rfl])) enc hk h1 (fun x y => cmpD x.1.td3 y.1.td3) (swo_cmpD fun x : α => x.1.td3) 42 #[] g 0 cap ls.toArray w (fun args w => by rfl) hcmp hH hgl (by simp; omega)
  have es : ls.toArray.size = n := by simp [elen]
  rw [es] at key
  refine key.mono ?_
  rintro e w' ⟨rfl, d', m, os, hp, hs, hw⟩
  have S : SWK enc 12 w g 0 d' w' := ⟨m, os, hw⟩
  have hsd : d'.size = n := hp.1.trans es
  obtain ⟨cur', hh', hs', ht'⟩ := own_swk enc 12 hk S hh hgl (by omega)
  refine ⟨rfl, d'.toList.map Subtype.val, ?_, ?_, ⟨⟨?_, .inr ⟨g, cap, cur', ?_, hB, hh', ?_, hmx, by omega, ?_⟩⟩, fun g' h' => ?_⟩, below_swk enc 12 S hB hgl⟩
  · have h2 := hp.2.2
    rw [← hsd, Array.extract_size, hsd, ← es, Array.extract_size] at h2
    have h3 := h2.map Subtype.val
    rw [List.toList_toArray, els] at h3
    exact h3
  · rw [List.map_map, List.pairwise_map, List.pairwise_iff_getElem]
    intro i j hi hj hij
    have hi' : i < d'.size := by simpa using hi
    have hj' : j < d'.size := by simpa using hj
    have h := of_decide_eq_false (hs i j (Nat.zero_le _) hij (by omega))
    rw [getElem!_pos d' i hi', getElem!_pos d' j hj'] at h
    have h : ¬ cmpD d'[j].1.td3 d'[i].1.td3 < 0 := h
    have a := ord_cmpD.anti d'[i].1.td3 d'[j].1.td3
    simp only [Array.getElem_toList, Function.comp]
    omega
  · rw [flatG_len]
  · simp [hsd]
  · simp [hsd]; exact hle
  · rw [List.length_map, Array.length_toList, ht', evm]
  · have : g = g' := by simpa [Value.ownBlock] using h'
    subst this
    exact ⟨hB, S.lt hgl⟩
end Go.Proofs.YtoclingolfdfeaaGreatDoor
