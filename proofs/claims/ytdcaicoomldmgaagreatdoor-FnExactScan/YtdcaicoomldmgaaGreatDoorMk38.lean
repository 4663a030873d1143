/- Texts put together: StqI StqL -/
import Derived.Test.YtdcaicoomldmgaaGreatDoorMk17
import Derived.Test.YtdcaicoomldmgaaGreatDoorMk22
import Derived.Test.YtdcaicoomldmgaaGreatDoorMk37
import Derived.Test.YtdcaicoomldmgaaGreatDoorMk18
/- StqI -/
namespace Go.Proofs.YtdcaicoomldmgaaGreatDoor
open Go.RowKit Go.Deep
set_option maxRecDepth 100000

theorem Bs.butA {w w' : World} {g len : Nat} {a : Option Addr} {bs : List Int} (h : Bs w a len bs) (hb : But g w w') (hne : ∀ p, a = some p → p.block ≠ g) : Bs w' a len bs := by
  obtain ⟨h1, h2, h3, h4⟩ := h
  refine ⟨h1, h2, h3, ?_⟩
  rcases h4 with h4 | ⟨b', off, ha, hlt, hc⟩
  · exact .inl h4
  · exact .inr ⟨b', off, ha, by rw [hb.size]; exact hlt, fun i hi => (hb.cell (p := ⟨b', off + i, none⟩) (show b' ≠ g from hne _ ha)).trans (hc i hi)⟩
theorem Bs.butB {w w' : World} {g len : Nat} {a : Option Addr} {bs : List Int} (h : Bs w a len bs) (hb : But g w w') (hne : len = 0 ∨ ∀ p, a = some p → p.block ≠ g) : Bs w' a len bs := by
  rcases hne with h0 | hne
  · exact ⟨h.1, h.2.1, h.2.2.1, .inl h0⟩
  · exact h.butA hb hne
theorem Bs.away {w : World} {a : Option Addr} {len g : Nat} {bs : List Int} (h : Bs w a len bs) (hg : w.heap.size ≤ g) : len = 0 ∨ ∀ p, a = some p → p.block ≠ g := by
  rcases h.2.2.2 with h0 | ⟨b, off, ha, hlt, _⟩
  · exact .inl h0
  · refine .inr fun p hp => ?_
    rw [ha] at hp
    cases hp
    show b ≠ g
    omega
theorem Bs.low {w : World} {a : Option Addr} {len : Nat} {bs : List Int} (h : Bs w a len bs) : len = 0 ∨ ∀ p, a = some p → p.block < w.heap.size := by
  rcases h.2.2.2 with h0 | ⟨b, off, ha, hlt, _⟩
  · exact .inl h0
  · refine .inr fun p hp => ?_
    rw [ha] at hp
    cases hp
    exact hlt
/-- Lists of rows, read. -/
theorem Orders.read {w : World} {B : Nat} {v : Value} {rows : List (Int × Int × Int)} {k : Nat} {vs : List Value} (h : Orders w B v rows k vs) (hk : 0 < k) : ∃ a cap rbs, v = .slice a k cap ∧ SRow w a rbs ∧ rbs.length = k ∧ (∀ i x, rbs[i]? = some x → RRow w x.a x.l ∧ RowsOf i rows x.l) := by
  have hh : ∀ i, ∃ x : RB, i < k → vs[i]? = some (.slice x.a x.l.length x.cap) ∧ RRow w x.a x.l ∧ RowsOf i rows x.l := by
    intro i
    by_cases hi : i < k
    · obtain ⟨y, hy⟩ : ∃ y, vs[i]? = some y := ⟨_, List.getElem?_eq_getElem (by rw [h.len]; exact hi)⟩
      obtain ⟨l, h1, h2, h3⟩ := h.row i y hy
      obtain ⟨a, c, rfl, hr, _⟩ := h1.form
      exact ⟨⟨a, c, l⟩, fun _ => ⟨hy, hr, ⟨h2, h3⟩⟩⟩
    · exact ⟨⟨none, 0, []⟩, fun h => absurd h hi⟩
  obtain ⟨F, hF⟩ := Classical.axiomOfChoice hh
  have hget : ∀ i x, ((List.range k).map F)[i]? = some x → i < k ∧ x = F i := by
    intro i x hx
    rw [List.getElem?_map] at hx
    obtain ⟨j, hj, rfl⟩ := Option.map_eq_some_iff.1 hx
    obtain ⟨h1, h2⟩ := List.getElem?_eq_some_iff.1 hj
    simp at h1 h2
    exact ⟨h1, by rw [h2]⟩
  rcases h.own.1.2 with ⟨_, h0⟩ | ⟨g, cap, cur, hv, hB, hc, hle, _, hsz, htk⟩
  · have := h.len
    omega
  · rw [h.len] at hv
    refine ⟨_, cap, (List.range k).map F, hv, .inr ⟨g, 0, rfl, ?_, fun i x hx => ?_⟩, by simp, fun i x hx => ?_⟩
    · exact (h.own.2 g (by rw [hv]; rfl)).2
    · obtain ⟨hi, rfl⟩ := hget i x hx
      have h1 := (hF i hi).1
      rw [← htk, List.getElem?_take, if_pos (by rw [h.len]; omega)] at h1
      rw [Nat.zero_add]
      simp only [World.cell?, hc]
      simpa using h1
    · obtain ⟨hi, rfl⟩ := hget i x hx
      exact (hF i hi).2
theorem Row3c.but {w w' : World} {b g : Nat} {v0 v1 v2 : Value} (h : Row3c w b v0 v1 v2) (hb : But g w w') (hne : b ≠ g) : Row3c w' b v0 v1 v2 := by
  obtain ⟨h0, h1, h2, h3⟩ := h
  exact ⟨by rw [hb.size]; exact h0, (hb.cell (p := ⟨b, 0, none⟩) hne).trans h1, (hb.cell (p := ⟨b, 1, none⟩) hne).trans h2, (hb.cell (p := ⟨b, 2, none⟩) hne).trans h3⟩
theorem Row3c.set3 {w : World} {b : Nat} {u0 u1 u2 v0 v1 v2 : Value} (h : Row3c w b u0 u1 u2) : Row3c (((w.setCell ⟨b, 0, none⟩ v0).setCell ⟨b, 1, none⟩ v1).setCell ⟨b, 2, none⟩ v2) b v0 v1 v2 := by
  obtain ⟨h0, h1, h2, h3⟩ := h
  refine ⟨by simpa [World.setCell] using h0, ?_, ?_, ?_⟩
  · rw [set_other (by omega), set_other (by omega)]
    exact set_same h1
  · rw [set_other (by omega)]
    exact set_same (u := u1) (by rw [set_other (by omega)]; exact h2)
  · exact set_same (u := u2) (by rw [set_other (by omega), set_other (by omega)]; exact h3)

/-- append of one row to rows of the call's own. -/
theorem appR {ops : Array Oper} {rest : List Oper} {o : Oper} {a : Act} {Q : Exit → Act → World → Prop} {w : World} (hgd : o.guard = none) (s x : Operand)
    (ho : o.op = .call { callee := .builtin .append, args := #[s, x], argTypes := #[57, 57] })
    (B : Nat) (v : Value) (us : List (Int × Int × Int)) (hs : a.eval s = v) (HO : Hid (OwnRR w B v us))
    (ad : Addr) (c : Nat) (r : Int × Int × Int) (hx : a.eval x = .slice (some ad) 1 c) (HN : Hid (∀ j u, (encR r)[j]? = some u → w.cell? (ad.add j) = some u))
    (N : Nat) (hN : us.length + 1 = N) (hle : N ≤ 1000000000) (hB : B ≤ w.heap.size)
    (h : ∀ g cap w', Hid (OwnRR w' B (.slice (some ⟨g, 0, none⟩) N cap) (us ++ [r])) → Hid (w.grownBy w' v.ownBlock) → Hid (v.ownBlock = some g ∨ g = w.heap.size) → Hid (Below B w w') → wpList Tryz.prog ops Q rest (a.put o.dst (.slice (some ⟨g, 0, none⟩) N cap)) w') :
    wpList Tryz.prog ops Q (o :: rest) a w := by
  obtain ⟨i0, hi0, hzz⟩ := Option.map_eq_some_iff.1 Tryz.info99
  simp only [Prod.mk.injEq] at hzz
  obtain ⟨hi2, hi1, hi3⟩ := hzz
  subst hN
  refine wpList_append_lies _ hgd s x 57 ho B 99 i0 (.agg #[.int .i64 0, .int .i64 0, .int .i64 0]) 3 24 Tryz.underlying57 hi0 hi2 hi1 hi3 rfl (by omega) v us.length (flat3 us) hs HO.out.1 ad 1 c (encR r) hx rfl HN.out (encR_one r) (by omega) (by unfold maxLen; omega) (by omega) hB _ rfl ?_
  intro g cap w' hown hgr hat hlt
  have hown' : w'.ownsRow B 99 3 (.slice (some ⟨g, 0, none⟩) (us.length + 1) cap) (us ++ [r]).length (flat3 (us ++ [r])) := by
    rw [flat3_append, List.length_append]
    have e : flat3 [r] = encR r := by simp [flat3]
    rw [e]
    exact hown
  refine h g cap w' ⟨hown', fun g' hg' => ?_⟩ hgr hat ?_
  · have : g = g' := by simpa [Value.ownBlock] using hg'
    subst this
    rcases hown.2 with ⟨hv, _⟩ | ⟨g0, c0, cur, hv, hb, _⟩
    · cases hv
    · cases hv; exact ⟨hb, hlt⟩
  · rcases HO.out.1.2 with ⟨hv, _⟩ | ⟨g0, c0, cur, hv, hb, _⟩
    · subst hv
      exact ⟨hgr.os, hgr.tape, hgr.output, hgr.size, fun b hb => hgr.block b (by omega) (by simp [Value.ownBlock])⟩
    · subst hv
      exact ⟨hgr.os, hgr.tape, hgr.output, hgr.size, fun b hb' => hgr.block b (by omega) (by intro e; have : b = g0 := (by simpa [Value.ownBlock] using e); omega)⟩
/-- append of one list of rows to lists of the call's own. -/
theorem appV {ops : Array Oper} {rest : List Oper} {o : Oper} {a : Act} {Q : Exit → Act → World → Prop} {w : World} (hgd : o.guard = none) (s x : Operand)
    (ho : o.op = .call { callee := .builtin .append, args := #[s, x], argTypes := #[27, 27] })
    (B : Nat) (v : Value) (vs : List Value) (hs : a.eval s = v) (HO : Hid (OwnV w B v vs))
    (ad : Addr) (c : Nat) (y : Value) (hx : a.eval x = .slice (some ad) 1 c) (HN : Hid (∀ j u, ([y] : List Value)[j]? = some u → w.cell? (ad.add j) = some u)) (hy : y.oneCell' = true)
    (N : Nat) (hN : vs.length + 1 = N) (hle : N ≤ 1000000000) (hB : B ≤ w.heap.size)
    (h : ∀ g cap w', Hid (w'.ownsRow B 57 1 (.slice (some ⟨g, 0, none⟩) N cap) N (vs ++ [y])) → Hid (w.grownBy w' v.ownBlock) → Hid (v.ownBlock = some g ∨ g = w.heap.size) → Hid (g < w'.heap.size) → wpList Tryz.prog ops Q rest (a.put o.dst (.slice (some ⟨g, 0, none⟩) N cap)) w') :
    wpList Tryz.prog ops Q (o :: rest) a w := by
  obtain ⟨i0, hi0, hzz⟩ := Option.map_eq_some_iff.1 Tryz.info57
  simp only [Prod.mk.injEq] at hzz
  obtain ⟨hi2, hi1, hi3⟩ := hzz
  subst hN
  refine wpList_append_lies _ hgd s x 27 ho B 57 i0 (.slice none 0 0) 1 24 Tryz.underlying27 hi0 hi2 hi1 hi3 rfl (by omega) v vs.length vs hs HO.out.1 ad 1 c [y] hx rfl HN.out (fun u hu => by simp only [List.mem_cons, List.not_mem_nil, or_false] at hu; rw [hu]; exact hy) (by omega) (by unfold maxLen; omega) (by omega) hB _ rfl ?_
  intro g cap w' hown hgr hat hlt
  exact h g cap w' hown hgr hat hlt
end Go.Proofs.YtdcaicoomldmgaaGreatDoor

/- StqL -/
namespace Go.Proofs.YtdcaicoomldmgaaGreatDoor
open Go.RowKit Go.Deep
set_option maxRecDepth 100000

/-- A store behind two slices. -/
structure SArg (w : World) (aT : Option Addr) (tb : List TB) (aR : Option Addr) (rbs : List RB) : Prop where
  trow : TRow w aT tb
  ttxt : TTxt w tb
  fit : ∀ x ∈ tb, x.t.fits
  tlen : tb.length ≤ 1048576
  srow : SRow w aR rbs
  hold : SHold w rbs
  rlen : rbs.length ≤ 1048576
theorem SArg.below {w w' : World} {aT : Option Addr} {tb : List TB} {aR : Option Addr} {rbs : List RB} (h : SArg w aT tb aR rbs) (hb : Below w.heap.size w w') : SArg w' aT tb aR rbs :=
  ⟨h.trow.below hb, h.ttxt.below hb, h.fit, h.tlen, h.srow.below hb, h.hold.below hb, h.rlen⟩
theorem SArg.byt {w : World} {aT : Option Addr} {tb : List TB} {aR : Option Addr} {rbs : List RB} (h : SArg w aT tb aR rbs) : ∀ x ∈ tb, Byt x.b := fun x hx => (h.ttxt x hx).byt

theorem tbAt_mem {tb : List TB} {z : Int} (h : 1 ≤ z ∧ z ≤ tb.length) : tbAt tb z ∈ tb := by
  unfold tbAt
  rw [List.getElem?_eq_getElem (show (z - 1).toNat < tb.length by omega)]
  exact List.getElem_mem _
theorem r3At_in {tb : List TB} {l : List (Int × Int × Int)} (h : ∀ r ∈ l, inR tb.length r) {i : Nat} (hi : i < l.length) : inR tb.length (r3At l i) := by
  unfold r3At
  rw [List.getElem?_eq_getElem hi]
  exact h _ (List.getElem_mem _)
theorem s_fit {tb : List TB} {l : List (Int × Int × Int)} (hf : ∀ x ∈ tb, x.t.fits) (h : ∀ r ∈ l, inR tb.length r) : AllFit l.length (sT tb l) (sU tb l) (sV tb l) :=
  fun _ hi => ⟨hf _ (tbAt_mem (r3At_in h hi).1), hf _ (tbAt_mem (r3At_in h hi).2.1), hf _ (tbAt_mem (r3At_in h hi).2.2)⟩
theorem s_texts {w : World} {tb : List TB} {l : List (Int × Int × Int)} (ht : TTxt w tb) (h : ∀ r ∈ l, inR tb.length r) : Texts w l.length (sT tb l) (sbt tb l) ∧ Texts w l.length (sU tb l) (sbu tb l) ∧ Texts w l.length (sV tb l) (sbv tb l) :=
  ⟨fun _ hi => ht _ (tbAt_mem (r3At_in h hi).1), fun _ hi => ht _ (tbAt_mem (r3At_in h hi).2.1), fun _ hi => ht _ (tbAt_mem (r3At_in h hi).2.2)⟩
theorem row0_map {rbs : List RB} {x : RB} (h : rbs[0]? = some x) : row0 (rbs.map RB.l) = x.l := by
  unfold row0
  rw [List.getElem?_map, h]
  rfl
/-- Two lists of six are the same where each is. -/
theorem rows_iff {p q : List RB} (h : q.length = 6) (hp : p.length = 6) : p.map RB.l = q.map RB.l ↔ ∀ (k : Nat) l, (q.map RB.l)[k]? = some l → ((p[k]?).map RB.l).getD [] = l := by
  constructor
  · intro e k l hl
    rw [← e, List.getElem?_map] at hl
    rw [hl]
    rfl
  · intro hh
    refine lists_eq_of (by simp [h, hp]) fun i x y hx hy => ?_
    have := hh i y hy
    rw [List.getElem?_map] at hx
    rw [hx] at this
    exact this

set_option maxHeartbeats 4000000 in
theorem implStoreOk_not6 (aT aR : Option Addr) (nT capT nR capR : Nat) (w : World) (h6 : nR ≠ 6) :
    Calls Tryz.prog 32 #[.agg #[.slice aT nT capT, .slice aR nR capR]] w fun e w' => e = .returned (.bool false) ∧ Below w.heap.size w w' := by
  have hG := fun W => graphOf_not6 aT aR nT capT nR capR W h6
  clear h6
  go_enter Tryz.func32, Tryz.ntmps32
  go_wp2_with fail
  refine (hG _).mono ?_
  rintro e w1 ⟨rfl, hb1⟩
  have HB1 : Hid (Below w.heap.size w w1) := bl_trans (bl_a _) hb1
  clear hG hb1
  go_wp2
  go_ret
  exact ⟨rfl, bl_alloc HB1.out _⟩

set_option maxHeartbeats 8000000 in
theorem implStoreOk_six (aT aR : Option Addr) (nT capT capR : Nat) (tb : List TB) (rbs : List RB) (x0 : RB) (n : Nat) (w : World) (h : SArg w aT tb aR rbs) (h6 : rbs.length = 6) (hx0 : rbs[0]? = some x0) (hnT : nT = tb.length) (hn0 : n = x0.l.length) (ht : Tab w) :
    Calls Tryz.prog 32 #[.agg #[.slice aT nT capT, .slice aR 6 capR]] w fun e w' => ∃ q, e = .returned (.bool q) ∧ (q = true ↔ Good tb (rbs.map RB.l)) ∧ Below w.heap.size w w' := by
  have HSA : Hid (SArg w aT tb aR rbs) := h
  have HNT : Hid (nT = tb.length) := hnT
  have HN0 : Hid (n = x0.l.length) := hn0
  have HR0 : Hid (row0 (rbs.map RB.l) = x0.l) := row0_map hx0
  have H6 : Hid (rbs.length = 6) := h6
  have HTab : Hid (Tab w) := ht
  have hnT' : nT ≤ 1048576 := by rw [hnT]; exact h.tlen
  have hx0m := List.mem_of_getElem? hx0
  have hn : n ≤ 1048576 := by rw [hn0]; exact (h.hold x0 hx0m).2
  have hne : rbs ≠ [] := by
    intro e
    rw [e] at h6
    simp at h6
  obtain ⟨bR, oR, rfl, hbR, hcR⟩ := h.srow.resolve_left hne
  have hc0 := hcR 0 x0 hx0
  rw [← hn0, Nat.add_zero] at hc0
  have hG := fun o => graphOf_six aT (some ⟨bR, oR, none⟩) capT capR tb x0.l x0.a x0.cap (w.alloc o) nT n hnT hn0 hnT' hn (h.trow.below (bl_a o)) ((h.hold x0 hx0m).1.below (bl_a o)) bR oR rfl (by simp; omega) (((bl_a o).cell (p := ⟨bR, oR, none⟩) hbR).trans hc0)
  have HSO0 : Hid (∀ W a cap, Below w.heap.size w W → Rows W a n (sT tb x0.l) (sU tb x0.l) (sV tb x0.l) → (∀ r ∈ x0.l, inR tb.length r) → sOk tb x0.l = false → Calls Tryz.prog 10 #[.agg #[.slice a n cap]] W fun e w' => e = .returned (.tuple #[.agg #[.slice none 0 0, .slice none 0 0], .bool false]) ∧ Below W.heap.size W w') := by
    intro W a cap hW hRr hin hok
    have hsa := h.below hW
    obtain ⟨t1, t2, t3⟩ := s_texts hsa.ttxt hin
    have hf := s_fit hsa.fit hin
    rw [← hn0] at t1 t2 t3 hf
    unfold sOk at hok
    rw [← hn0] at hok
    exact implStoreOf_no a n cap _ _ _ _ _ _ W hn hf hRr t1 t2 t3 hok
  have HSO1 : Hid (∀ W a cap, Below w.heap.size w W → Rows W a n (sT tb x0.l) (sU tb x0.l) (sV tb x0.l) → (∀ r ∈ x0.l, inR tb.length r) → sOk tb x0.l = true → Calls Tryz.prog 10 #[.agg #[.slice a n cap]] W (StoreRes W n (sT tb x0.l) (sU tb x0.l) (sV tb x0.l) (sbt tb x0.l) (sbu tb x0.l) (sbv tb x0.l))) := by
    intro W a cap hW hRr hin hok
    have hsa := h.below hW
    obtain ⟨t1, t2, t3⟩ := s_texts hsa.ttxt hin
    have hf := s_fit hsa.fit hin
    rw [← hn0] at t1 t2 t3 hf
    unfold sOk at hok
    rw [← hn0] at hok
    exact implStoreOf_yes a n cap _ _ _ _ _ _ W hf hRr t1 t2 t3 hok (ht.below hW)
  clear h h6 hx0 hnT hn0 ht hx0m hne hc0 hcR
  go_enter Tryz.func32, Tryz.ntmps32
  go_wp2_with fail
  refine (hG _).mono ?_
  intro e w1 hres
  rcases hres with ⟨a1, cap1, rfl, hin, hrw, hb1⟩ | ⟨rfl, hnin, hb1⟩
  rotate_left
  · have HB1 : Hid (Below w.heap.size w w1) := bl_trans (bl_a _) hb1
    have HNI : Hid (¬ ∀ r ∈ x0.l, inR tb.length r) := hnin
    clear hG hb1 hnin
    go_wp2
    go_ret
    refine ⟨false, rfl, ⟨fun h => (by cases h), fun h => absurd ?_ HNI.out⟩, bl_alloc HB1.out _⟩
    have := h.rng
    rw [HR0.out] at this
    exact this
  · have HB1a : Hid (Below (w.heap.size + 1) (w.alloc (.cells #[.slice aT nT capT, .slice (some ⟨bR, oR, none⟩) 6 capR] 29)) w1) := (show Below _ _ _ by simpa using hb1)
    have HB1 : Hid (Below w.heap.size w w1) := bl_trans (bl_a _) hb1
    have HIN : Hid (∀ r ∈ x0.l, inR tb.length r) := hin
    have HRW : Hid (Rows w1 a1 n (sT tb x0.l) (sU tb x0.l) (sV tb x0.l)) := hrw
    clear hG hb1 hin hrw
    by_cases hok : sOk tb x0.l = true
    rotate_left
    · have hok' : sOk tb x0.l = false := by simpa using hok
      have HOK : Hid (¬ sOk tb x0.l = true) := hok
      have hS := fun o => HSO0.out (w1.alloc o) a1 cap1 (bl_alloc HB1.out o) (HRW.out.below (bl_a o)) HIN.out hok'
      clear hok hok'
      go_wp2_with fail
      refine (hS _).mono ?_
      rintro e w2 ⟨rfl, hb2⟩
      have HB2 : Hid (Below w.heap.size w w2) := bl_trans (bl_alloc HB1.out _) hb2
      clear hS hb2
      go_wp2
      go_ret
      refine ⟨false, rfl, ⟨fun h => (by cases h), fun h => absurd ?_ HOK.out⟩, bl_alloc HB2.out _⟩
      have := h.grf
      rw [HR0.out] at this
      exact this
    · have HOK : Hid (sOk tb x0.l = true) := hok
      have hS := fun o => HSO1.out (w1.alloc o) a1 cap1 (bl_alloc HB1.out o) (HRW.out.below (bl_a o)) HIN.out hok
      clear hok
      go_wp2_with fail
      refine (hS _).mono ?_
      rintro e w2 ⟨vT2, vR2, r, vs, B', B2, rfl, hOT, hTM, hrl, hb2, hOY, _, _, _, _, _, hOR⟩
      obtain ⟨aT2, cT2, rfl, hTR, _⟩ := hOT.form
      obtain ⟨aR2, cR2, rb2, rfl, hSR, hl2, hrb2⟩ := hOR.read (by omega)
      have HB2b : Hid (Below w1.heap.size w1 w2) := bl_trans (bl_a _) hb2
      have HB2 : Hid (Below w.heap.size w w2) := bl_trans (bl_alloc HB1.out _) hb2
      have HTM : Hid (TermsOf (allT (sT tb x0.l) (sU tb x0.l) (sV tb x0.l) (sbt tb x0.l) (sbu tb x0.l) (sbv tb x0.l) n) (r.map TB.td)) := hTM
      have HTR : Hid (TRow w2 aT2 r ∧ TTxt w2 r ∧ r.length ≤ 1048576) := ⟨hTR, fun y hy => (hOY y hy).2.2, by have := (sAll_good HSA.out.byt HOK.out).1; have := HN0.out; omega⟩
      have HRD : Hid (SRow w2 aR2 rb2 ∧ rb2.length = 6 ∧ ∀ i x, rb2[i]? = some x → RRow w2 x.a x.l ∧ RowsOf i (gRows (r.map TB.td) (sT tb x0.l) (sU tb x0.l) (sV tb x0.l) (sbt tb x0.l) (sbu tb x0.l) (sbv tb x0.l) n) x.l) := ⟨hSR, hl2, hrb2⟩
      obtain ⟨nr, hnr⟩ : ∃ nr, nr = r.length := ⟨_, rfl⟩
      have HNR : Hid (nr = r.length) := hnr
      rw [← hnr]
      have hbx : ∀ W, Below w2.heap.size w2 W → W.cell? ⟨w.heap.size, 0, none⟩ = some (.slice aT nT capT) ∧ W.cell? ⟨w.heap.size, 1, none⟩ = some (.slice (some ⟨bR, oR, none⟩) 6 capR) := by
        intro W hW
        have hs1 : w.heap.size + 1 ≤ w1.heap.size := by have := HB1a.out.size; simpa using this
        have hall : Below (w.heap.size + 1) (w.alloc (.cells #[.slice aT nT capT, .slice (some ⟨bR, oR, none⟩) 6 capR] 29)) W := (HB1a.out.trans (HB2b.out.mono (by omega))).trans (hW.mono (by have := HB2b.out.size; omega))
        exact ⟨(hall.cell (p := ⟨w.heap.size, 0, none⟩) (Nat.lt_succ_self _)).trans (by simp [go_sem]), (hall.cell (p := ⟨w.heap.size, 1, none⟩) (Nat.lt_succ_self _)).trans (by simp [go_sem])⟩
      have b0 := fun o => (hbx (w2.alloc o) (bl_a o)).1
      have HBX : Hid (∀ W, Below w2.heap.size w2 W → W.cell? ⟨w.heap.size, 0, none⟩ = some (.slice aT nT capT) ∧ W.cell? ⟨w.heap.size, 1, none⟩ = some (.slice (some ⟨bR, oR, none⟩) 6 capR)) := hbx
      have HRG : Hid (∀ x ∈ r, x.good) := fun y hy => by
        have h1 := (HTM.out.mem y.td).1 (List.mem_map_of_mem (f := TB.td) hy)
        have h2 := (sAll_good HSA.out.byt HOK.out).2
        rw [← HN0.out] at h2
        exact allT_good h2 _ h1
      have hET := fun o => equalTerms_any aT2 aT cT2 capT r tb (w2.alloc o) HTR.out.2.2 HSA.out.tlen (HTR.out.1.below (bl_a o)) (HSA.out.trow.below (bl_alloc HB2.out o)) (HTR.out.2.1.below (bl_a o)) (HSA.out.ttxt.below (bl_alloc HB2.out o)) HRG.out HSA.out.fit
      rw [← hnr, ← HNT.out] at hET
      have HGI : Hid (Good tb (rbs.map RB.l) ↔ (r.map TB.td = tb.map TB.td ∧ rb2.map RB.l = rbs.map RB.l)) := by
        have hgi := good_iff (tb := tb) (rs := rbs.map RB.l) (r := r.map TB.td) (R := fun k => ((rb2[k]?).map RB.l).getD []) HSA.out.byt (by rw [List.length_map]; exact H6.out) (by rw [HR0.out]; exact HIN.out) (by rw [HR0.out]; exact HOK.out) (by rw [HR0.out]; unfold sAll; rw [← HN0.out]; exact HTM.out) (fun k hk => by
          rw [HR0.out]
          unfold sRows
          rw [← HN0.out]
          obtain ⟨y, hy⟩ : ∃ y, rb2[k]? = some y := ⟨_, List.getElem?_eq_getElem (by rw [HRD.out.2.1]; exact hk)⟩
          rw [hy]
          exact (HRD.out.2.2 k y hy).2)
        rw [hgi, rows_iff H6.out HRD.out.2.1]
        exact Iff.rfl
      clear hS hb2 hOT hTM hrl hOY hOR hTR hSR hl2 hrb2 hnr hbx HSO0 HSO1
      go_wp2_with fail
      refine (hET _).mono ?_
      rintro e w3 ⟨q1, rfl, hq1, hb3⟩
      have HQ1 : Hid (q1 = true ↔ r.map TB.td = tb.map TB.td) := hq1
      have HB3a : Hid (Below w2.heap.size w2 w3) := bl_trans (bl_a _) hb3
      have HB3 : Hid (Below w.heap.size w w3) := bl_trans (bl_alloc HB2.out _) hb3
      have HB3c : Hid (Below (w2.heap.size + 1) (w2.alloc (.cells #[.slice aT2 nr cT2, .slice aR2 6 cR2] 29)) w3) := (show Below _ _ _ by simpa using hb3)
      clear hET hq1 hb3 b0
      cases q1 with
      | false =>
        go_wp2
        go_ret
        refine ⟨false, rfl, ⟨fun h => (by cases h), fun h => ?_⟩, HB3.out⟩
        have := HQ1.out.2 (HGI.out.1 h).1
        simp at this
      | true =>
        have b1 := (HBX.out w3 HB3a.out).2
        have b2 : w3.cell? ⟨w2.heap.size, 1, none⟩ = some (.slice aR2 6 cR2) := (HB3c.out.cell (p := ⟨w2.heap.size, 1, none⟩) (Nat.lt_succ_self _)).trans (by simp [go_sem])
        have hER := equalRowss_any aR2 (some ⟨bR, oR, none⟩) cR2 capR rb2 rbs w3 (by rw [HRD.out.2.1]; omega) HSA.out.rlen (HRD.out.1.below HB3a.out) (HSA.out.srow.below HB3.out) (fun y hy => by
          obtain ⟨i, hi, rfl⟩ := List.mem_iff_getElem.1 hy
          have h1 := HRD.out.2.2 i _ (List.getElem?_eq_getElem hi)
          refine ⟨h1.1.below HB3a.out, ?_⟩
          rw [h1.2.perm.length_eq, gRows_len]
          exact hn) (HSA.out.hold.below HB3.out)
        rw [HRD.out.2.1, H6.out] at hER
        obtain ⟨q2, hq2⟩ : ∃ q2, q2 = decide (rb2.map RB.l = rbs.map RB.l) := ⟨_, rfl⟩
        have HQ2 : Hid (q2 = decide (rb2.map RB.l = rbs.map RB.l)) := hq2
        rw [← hq2] at hER
        clear hq2
        go_wp2_with fail
        refine hER.mono ?_
        rintro e w4 ⟨rfl, hb4⟩
        have HB4 : Hid (Below w.heap.size w w4) := bl_trans HB3.out hb4
        clear hER hb4 b1 b2
        go_wp2
        go_ret
        refine ⟨q2, rfl, ?_, HB4.out⟩
        rw [HGI.out]
        constructor
        · intro h
          exact ⟨HQ1.out.1 (by simp), of_decide_eq_true (by rw [← HQ2.out]; exact h)⟩
        · intro h
          rw [HQ2.out]
          exact decide_eq_true h.2
/-- The program's StoreOk tells whether a store may be. -/
theorem implStoreOk_any (aT aR : Option Addr) (capT capR : Nat) (tb : List TB) (rbs : List RB) (w : World) (h : SArg w aT tb aR rbs) (ht : Tab w) :
    Calls Tryz.prog 32 #[.agg #[.slice aT tb.length capT, .slice aR rbs.length capR]] w fun e w' => ∃ q, e = .returned (.bool q) ∧ (q = true ↔ Good tb (rbs.map RB.l)) ∧ Below w.heap.size w w' := by
  by_cases h6 : rbs.length = 6
  · obtain ⟨x0, hx0⟩ : ∃ x0, rbs[0]? = some x0 := ⟨_, List.getElem?_eq_getElem (by omega)⟩
    have := implStoreOk_six aT aR tb.length capT capR tb rbs x0 x0.l.length w h h6 hx0 rfl rfl ht
    rw [h6]
    exact this
  · refine (implStoreOk_not6 aT aR tb.length capT rbs.length capR w h6).mono ?_
    rintro e w' ⟨rfl, hb⟩
    refine ⟨false, rfl, ⟨fun h => (by cases h), fun h => absurd ?_ h6⟩, hb⟩
    have := h.six
    rw [List.length_map] at this
    exact this
end Go.Proofs.YtdcaicoomldmgaaGreatDoor
