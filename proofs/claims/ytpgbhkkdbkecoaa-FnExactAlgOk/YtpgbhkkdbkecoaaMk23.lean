/- Texts put together: TreN TrwB TreO TreP TreP0 -/
import Derived.Test.YtpgbhkkdbkecoaaMk22
/- TreN -/
namespace Go.Proofs.Ytpgbhkkdbkecoaa
open Go.RowKit Go.Deep
set_option maxRecDepth 100000

/-- An algebra that may be. -/
def algOk (e : AT) : Prop := aOk e 1 ∧ asz e ≤ 480 ∧ (aV e []).length ≤ 8
set_option maxHeartbeats 4000000 in
theorem specAlgOk_any (e : AT) (w : World) (h : e.lies 0 w) : Calls Try.prog 6 #[.agg #[.int .i64 e.d.k, .slice e.d.pa e.d.pn e.d.pc, .int .i64 e.d.e.d.k, .int .i64 e.d.e.d.op, .slice e.d.e.d.v.a e.d.e.d.v.len e.d.e.d.v.cap, .int .i64 e.d.e.d.t.t.k, .slice e.d.e.d.t.t.a e.d.e.d.t.t.len e.d.e.d.t.t.cap, .int .i64 e.d.e.d.t.t.n, .int .i64 e.d.e.d.t.t.s, .slice e.d.e.d.ka e.d.e.d.n e.d.e.d.kc, .slice e.d.v.a e.d.v.len e.d.v.cap, .slice e.d.ta e.d.tb.length e.d.tc, .slice e.d.ka e.d.n e.d.kc]] w (Tells (algOk e) w) := by
  have A1 := fun (W : World) (g : Nat) (hb : Below w.heap.size w W) (hg : w.heap.size ≤ g) (hc : Ctr W g 480) => l5alg_any e 1 480 g w W h hb hg hc (by omega) (by omega) (by omega) (by omega)
  have HV : Hid (∀ W, Below w.heap.size w W → ac e ≤ 1000000 → Calls Try.prog 21 #[.slice none 0 0, .agg #[.int .i64 e.d.k, .slice e.d.pa e.d.pn e.d.pc, .int .i64 e.d.e.d.k, .int .i64 e.d.e.d.op, .slice e.d.e.d.v.a e.d.e.d.v.len e.d.e.d.v.cap, .int .i64 e.d.e.d.t.t.k, .slice e.d.e.d.t.t.a e.d.e.d.t.t.len e.d.e.d.t.t.cap, .int .i64 e.d.e.d.t.t.n, .int .i64 e.d.e.d.t.t.s, .slice e.d.e.d.ka e.d.e.d.n e.d.e.d.kc, .slice e.d.v.a e.d.v.len e.d.v.cap, .slice e.d.ta e.d.tb.length e.d.tc, .slice e.d.ka e.d.n e.d.kc]] W (AddAns w W.heap.size (.slice none 0 0) (aV e []) W)) := fun W hb ha => l5vars_any e (.slice none 0 0) [] W.heap.size w W h (VL.nil _ _ _) hb (by simpa using ha) (Nat.le_refl _) hb.size
  have HAC : Hid (aOk e 1 → ac e ≤ 4 * asz e) := fun h => ac_le h
  clear h
  go_enter Try.func6, Try.ntmps6
  go_upto_region 2 with fail
  obtain ⟨W1, hW1⟩ : ∃ W1, W1 = (w.alloc (.cells #[.int .i64 e.d.k, .slice e.d.pa e.d.pn e.d.pc, .int .i64 e.d.e.d.k, .int .i64 e.d.e.d.op, .slice e.d.e.d.v.a e.d.e.d.v.len e.d.e.d.v.cap, .int .i64 e.d.e.d.t.t.k, .slice e.d.e.d.t.t.a e.d.e.d.t.t.len e.d.e.d.t.t.cap, .int .i64 e.d.e.d.t.t.n, .int .i64 e.d.e.d.t.t.s, .slice e.d.e.d.ka e.d.e.d.n e.d.e.d.kc, .slice e.d.v.a e.d.v.len e.d.v.cap, .slice e.d.ta e.d.tb.length e.d.tc, .slice e.d.ka e.d.n e.d.kc] 43)).alloc (.cells #[.int .i64 480] 3) := ⟨_, rfl⟩
  have HX : Hid (Box W1 w.heap.size [.int .i64 e.d.k, .slice e.d.pa e.d.pn e.d.pc, .int .i64 e.d.e.d.k, .int .i64 e.d.e.d.op, .slice e.d.e.d.v.a e.d.e.d.v.len e.d.e.d.v.cap, .int .i64 e.d.e.d.t.t.k, .slice e.d.e.d.t.t.a e.d.e.d.t.t.len e.d.e.d.t.t.cap, .int .i64 e.d.e.d.t.t.n, .int .i64 e.d.e.d.t.t.s, .slice e.d.e.d.ka e.d.e.d.n e.d.e.d.kc, .slice e.d.v.a e.d.v.len e.d.v.cap, .slice e.d.ta e.d.tb.length e.d.tc, .slice e.d.ka e.d.n e.d.kc]) := (show Box _ _ _ by rw [hW1]; exact (Box.new w #[.int .i64 e.d.k, .slice e.d.pa e.d.pn e.d.pc, .int .i64 e.d.e.d.k, .int .i64 e.d.e.d.op, .slice e.d.e.d.v.a e.d.e.d.v.len e.d.e.d.v.cap, .int .i64 e.d.e.d.t.t.k, .slice e.d.e.d.t.t.a e.d.e.d.t.t.len e.d.e.d.t.t.cap, .int .i64 e.d.e.d.t.t.n, .int .i64 e.d.e.d.t.t.s, .slice e.d.e.d.ka e.d.e.d.n e.d.e.d.kc, .slice e.d.v.a e.d.v.len e.d.v.cap, .slice e.d.ta e.d.tb.length e.d.tc, .slice e.d.ka e.d.n e.d.kc] 43 _).below (bl_a _))
  have HC : Hid (Ctr W1 (w.heap.size + 1) 480) := (show Ctr _ _ _ by rw [hW1]; exact ⟨by simp, by simp [go_sem], by simp [go_sem]⟩)
  have HB : Hid (Below w.heap.size w W1) := (show Below _ _ _ by rw [hW1]; exact bl_alloc (bl_a _) _)
  rw [← hW1]
  clear hW1
  have A2 := A1 W1 (w.heap.size + 1) HB.out (Nat.le_succ _) HC.out
  have lr : W1.rangeAt w.heap.size 0 [.int .i64 e.d.k, .slice e.d.pa e.d.pn e.d.pc, .int .i64 e.d.e.d.k, .int .i64 e.d.e.d.op, .slice e.d.e.d.v.a e.d.e.d.v.len e.d.e.d.v.cap, .int .i64 e.d.e.d.t.t.k, .slice e.d.e.d.t.t.a e.d.e.d.t.t.len e.d.e.d.t.t.cap, .int .i64 e.d.e.d.t.t.n, .int .i64 e.d.e.d.t.t.s, .slice e.d.e.d.ka e.d.e.d.n e.d.e.d.kc, .slice e.d.v.a e.d.v.len e.d.v.cap, .slice e.d.ta e.d.tb.length e.d.tc, .slice e.d.ka e.d.n e.d.kc] := HX.out.range 0 _ rfl
  clear A1
  go_wp2_with (refine wpList_load_mid rfl 43 _ rfl w.heap.size 0 rfl [.int .i64 e.d.k, .slice e.d.pa e.d.pn e.d.pc, .int .i64 e.d.e.d.k, .int .i64 e.d.e.d.op, .slice e.d.e.d.v.a e.d.e.d.v.len e.d.e.d.v.cap, .int .i64 e.d.e.d.t.t.k, .slice e.d.e.d.t.t.a e.d.e.d.t.t.len e.d.e.d.t.t.cap, .int .i64 e.d.e.d.t.t.n, .int .i64 e.d.e.d.t.t.s, .slice e.d.e.d.ka e.d.e.d.n e.d.e.d.kc, .slice e.d.v.a e.d.v.len e.d.v.cap, .slice e.d.ta e.d.tb.length e.d.tc, .slice e.d.ka e.d.n e.d.kc] _ lr Try.underlying43 rfl (by kernel_rfl) ?_; try simp only [Act.put, List.setIfInBounds_toArray, List.set_cons_zero, List.set_cons_succ])
  refine A2.mono ?_
  rintro r w2 ⟨q, L', rfl, hq, _, hc2, hp2⟩
  have HB2 : Hid (Below w.heap.size w w2) := HB.out.trans (hp2.below (Nat.le_succ _) HB.out.size)
  have HX2 : Hid (Box w2 w.heap.size [.int .i64 e.d.k, .slice e.d.pa e.d.pn e.d.pc, .int .i64 e.d.e.d.k, .int .i64 e.d.e.d.op, .slice e.d.e.d.v.a e.d.e.d.v.len e.d.e.d.v.cap, .int .i64 e.d.e.d.t.t.k, .slice e.d.e.d.t.t.a e.d.e.d.t.t.len e.d.e.d.t.t.cap, .int .i64 e.d.e.d.t.t.n, .int .i64 e.d.e.d.t.t.s, .slice e.d.e.d.ka e.d.e.d.n e.d.e.d.kc, .slice e.d.v.a e.d.v.len e.d.v.cap, .slice e.d.ta e.d.tb.length e.d.tc, .slice e.d.ka e.d.n e.d.kc]) := HX.out.past hp2 (by omega)
  clear A2 lr hc2 hp2
  cases q with
  | false =>
    have HNO : Hid (¬ algOk e) := fun hh => by
      have h1 := hq.2 ⟨hh.1, by have := hh.2.1; omega⟩
      cases h1
    clear hq
    go_wp2_with fail
    go_ret
    exact Tells.no HNO.out HB2.out
  | true =>
    obtain ⟨h1, h2⟩ := hq.1 rfl
    have HOK : Hid (aOk e 1 ∧ asz e ≤ 480) := ⟨h1, by omega⟩
    have V := HV.out w2 HB2.out (by have h3 := HAC.out h1; omega)
    clear hq h1 h2
    have x0 := HX2.out.2 0 _ rfl
    have x1 := HX2.out.2 1 _ rfl
    have x2 := HX2.out.2 2 _ rfl
    have x3 := HX2.out.2 3 _ rfl
    have x4 := HX2.out.2 4 _ rfl
    have x5 := HX2.out.2 5 _ rfl
    have x6 := HX2.out.2 6 _ rfl
    have x7 := HX2.out.2 7 _ rfl
    have x8 := HX2.out.2 8 _ rfl
    have x9 := HX2.out.2 9 _ rfl
    have x10 := HX2.out.2 10 _ rfl
    have x11 := HX2.out.2 11 _ rfl
    have x12 := HX2.out.2 12 _ rfl
    go_wp2_with fail
    refine V.mono ?_
    rintro r w3 ⟨v3, L3, rfl, hV3, hR3, hK3⟩
    obtain ⟨a3, c3, rfl, _⟩ := hV3.form
    have hb3 : Below w2.heap.size w2 w3 := hK3.low (fun g hg => by cases hg) (Nat.le_refl _)
    have HB3 : Hid (Below w.heap.size w w3) := bl_trans HB2.out hb3
    obtain ⟨n3, hn3⟩ : ∃ n3, n3 = L3.length := ⟨_, rfl⟩
    have HE : Hid ((decide ((n3 : Int) ≤ 8)) = true ↔ algOk e) := by
      show (_ ↔ _)
      rw [decide_eq_true_iff]
      have h4 : (aV e []).length = n3 := by rw [← hR3, List.length_map, hn3]
      exact ⟨fun h => ⟨HOK.out.1, HOK.out.2, by omega⟩, fun h => by have := h.2.2; omega⟩
    rw [← hn3]
    clear V hV3 hR3 hK3 hb3 hn3 x0 x1 x2 x3 x4 x5 x6 x7 x8 x9 x10 x11 x12
    go_wp2_with fail
    go_ret
    exact Tells.of HE.out HB3.out
end Go.Proofs.Ytpgbhkkdbkecoaa

/- TrwB -/
namespace Go.Proofs.Ytpgbhkkdbkecoaa
open Go.RowKit Go.Deep
set_option maxRecDepth 100000

theorem tds_same {l l' : List TB} (h : l.map TB.td = l'.map TB.td) : l.length = l'.length ∧ ((∀ x ∈ l, x.td.ok = true) ↔ ∀ x ∈ l', x.td.ok = true) := by
  refine ⟨by have := congrArg List.length h; simpa using this, ?_⟩
  have e : ∀ m : List TB, (∀ x ∈ m, x.td.ok = true) ↔ ∀ y ∈ m.map TB.td, y.ok = true := fun m => by simp
  rw [e l, e l', h]
theorem NodeA.same {d d' : AN} (hk : d.k = d'.k) (hpn : d.pn = d'.pn) (hp : ∀ i, i < d.pn → (d.pat i).same (d'.pat i)) (he : d.e.same d'.e) (hv : d.v.b = d'.v.b) (ht : d.tb.map TB.td = d'.tb.map TB.td) (hn : d.n = d'.n) (h : NodeA d) : NodeA d' := by
  obtain ⟨l1, l2⟩ := tds_same ht
  refine ⟨hk ▸ h.k0, hk ▸ h.k7, ?_, fun hh => ?_, hpn ▸ h.pn, fun hh => ?_, l1 ▸ h.tn, fun hh => ?_, fun hh => ?_, fun hh => ?_, fun hh => ?_, fun i hi => ?_, l2.1 h.tm⟩
  · rw [← hn, ← hk]; exact h.n
  · rw [← hpn]; exact h.p0 (hk ▸ hh)
  · have h0 := h.t0 (hk ▸ hh); rw [tb_nil] at h0 ⊢; omega
  · exact (eOk_same he).1 (h.e1 (hk ▸ hh))
  · exact (zeroE_same he).1 (h.e0 (hk ▸ hh))
  · rw [← hv]; exact h.v1 (hk ▸ hh)
  · rw [← hv]; exact h.v0 (hk ▸ hh)
  · exact (ptOk_same (hp i (by omega))).1 (h.pt i (by omega))
theorem IB.same.symm {x y : IB} (h : x.same y) : y.same x := ⟨h.1.symm, h.2.symm⟩
theorem PB.same.symm {x y : PB} (h : x.same y) : y.same x := ⟨h.1.symm, h.2.1.symm, h.2.2.symm⟩
theorem ET.same.symm {e : ET} : ∀ {e' : ET}, e.same e' → e'.same e := by
  induction e with
  | nil => exact fun h => False.elim h
  | mk d kid ih =>
    intro e' h
    cases e' with
    | nil => exact False.elim h
    | mk d' kid' =>
    obtain ⟨h0, h1, h2, h3, h4, h5⟩ := h
    exact ⟨h0.symm, h1.symm, h2.symm, h3.symm, h4.symm, fun i hi => ih i (h5 i (by omega))⟩
theorem IB.same.trans {x y z : IB} (h : x.same y) (k : y.same z) : x.same z := ⟨h.1.trans k.1, h.2.trans k.2⟩
theorem PB.same.trans {x y z : PB} (h : x.same y) (k : y.same z) : x.same z := ⟨h.1.trans k.1, h.2.1.trans k.2.1, h.2.2.trans k.2.2⟩
theorem ET.same.trans {e : ET} : ∀ {e' e'' : ET}, e.same e' → e'.same e'' → e.same e'' := by
  induction e with
  | nil => exact fun h => False.elim h
  | mk d kid ih =>
    intro e' e'' h k
    cases e' with
    | nil => exact False.elim h
    | mk d' kid' =>
    cases e'' with
    | nil => exact False.elim k
    | mk d'' kid'' =>
    obtain ⟨h0, h1, h2, h3, h4, h5⟩ := h
    obtain ⟨k0, k1, k2, k3, k4, k5⟩ := k
    exact ⟨h0.trans k0, h1.trans k1, h2.trans k2, h3.trans k3, h4.trans k4, fun i hi => ih i (h5 i hi) (k5 i (by omega))⟩
theorem AT.same.symm {e : AT} : ∀ {e' : AT}, e.same e' → e'.same e := by
  induction e with
  | nil => exact fun h => False.elim h
  | mk d kid ih =>
    intro e' h
    cases e' with
    | nil => exact False.elim h
    | mk d' kid' =>
    obtain ⟨h0, h1, h2, h3, h4, h5, h6, h7⟩ := h
    exact ⟨h0.symm, h1.symm, fun i hi => (h2 i (by omega)).symm, h3.symm, h4.symm, h5.symm, h6.symm, fun i hi => ih i (h7 i (by omega))⟩
theorem AT.same.trans {e : AT} : ∀ {e' e'' : AT}, e.same e' → e'.same e'' → e.same e'' := by
  induction e with
  | nil => exact fun h => False.elim h
  | mk d kid ih =>
    intro e' e'' h k
    cases e' with
    | nil => exact False.elim h
    | mk d' kid' =>
    cases e'' with
    | nil => exact False.elim k
    | mk d'' kid'' =>
    obtain ⟨h0, h1, h2, h3, h4, h5, h6, h7⟩ := h
    obtain ⟨k0, k1, k2, k3, k4, k5, k6, k7⟩ := k
    exact ⟨h0.trans k0, h1.trans k1, fun i hi => (h2 i hi).trans (k2 i (by omega)), h3.trans k3, h4.trans k4, h5.trans k5, h6.trans k6, fun i hi => ih i (h7 i hi) (k7 i (by omega))⟩
theorem aOk_imp {e : AT} : ∀ {e' : AT} {deep : Int}, e.same e' → aOk e deep → aOk e' deep := by
  induction e with
  | nil => exact fun h => False.elim h
  | mk d kid ih =>
    intro e' deep h
    cases e' with
    | nil => exact False.elim h
    | mk d' kid' =>
    obtain ⟨h0, h1, h2, h3, h4, h5, h6, h7⟩ := h
    exact fun hh => ⟨hh.1, NodeA.same h0 h1 h2 h3 h4 h5 h6 hh.2.1, fun i hi => ih i (h7 i (by omega)) (hh.2.2 i (by omega))⟩
theorem asz_same {e : AT} : ∀ {e' : AT}, e.same e' → asz e = asz e' := by
  induction e with
  | nil => exact fun h => False.elim h
  | mk d kid ih =>
    intro e' h
    cases e' with
    | nil => exact False.elim h
    | mk d' kid' =>
    obtain ⟨h0, h1, h2, h3, h4, h5, h6, h7⟩ := h
    show ownA d + sumN d.n _ = ownA d' + sumN d'.n _
    have e1 : ownA d = ownA d' := by
      unfold ownA
      rw [h0, h1, esz_same h3]
    rw [e1, ← h6, sumN_congr fun i hi => ih i (h7 i hi)]
theorem ptV_same {x y : PB} (h : x.same y) (l : List (List Int)) : ptV x l = ptV y l := by
  unfold ptV
  rw [h.1.1, h.2.1.1, h.2.2.1]
theorem aV_same {e : AT} : ∀ {e' : AT} {l : List (List Int)}, e.same e' → aV e l = aV e' l := by
  induction e with
  | nil => exact fun h => False.elim h
  | mk d kid ih =>
    intro e' l h
    cases e' with
    | nil => exact False.elim h
    | mk d' kid' =>
    obtain ⟨h0, h1, h2, h3, h4, h5, h6, h7⟩ := h
    show foldN d.n _ (addV (eV d.e (foldN d.pn _ l)) d.v.b) = foldN d'.n _ (addV (eV d'.e (foldN d'.pn _ l)) d'.v.b)
    rw [← h6, ← h4, ← h1, foldN_congr (fun i hi a => ptV_same (h2 i hi) a) l, eV_same h3]
    exact foldN_congr (fun i hi a => ih i (h7 i hi)) _
theorem algOk_same {e e' : AT} (h : e.same e') : algOk e ↔ algOk e' := by
  unfold algOk
  rw [asz_same h, aV_same h]
  exact and_congr_left fun _ => ⟨aOk_imp h, aOk_imp h.symm⟩
end Go.Proofs.Ytpgbhkkdbkecoaa

/- TreO -/
namespace Go.Proofs.Ytpgbhkkdbkecoaa
open Go.RowKit Go.Deep
set_option maxRecDepth 100000

theorem spares_any (g : Nat) (L n : Int) (w : World) (hc : Ctr w g L) (h0 : -100000 ≤ L) (h1 : L ≤ 100000) (h2 : 0 ≤ n) (h3 : n ≤ 1048576) :
    Calls Try.prog 78 #[.pointer (some ⟨g, 0, none⟩), .int .i64 n] w fun e w' => e = .returned (.bool (decide (0 ≤ L - n))) ∧ Ctr w' g (L - n) ∧ Past g w w' := by
  have HC : Hid (Ctr (w.setCell ⟨g, 0, none⟩ (.int .i64 (L - n))) g (L - n) ∧ Past g w (w.setCell ⟨g, 0, none⟩ (.int .i64 (L - n)))) := ⟨hc.set _, (Past.refl g w).set 0 _⟩
  have c0 := hc.cell
  have f0 := hc.fr
  have c1 : (w.setCell ⟨g, 0, none⟩ (.int .i64 (L - n))).cell? ⟨g, 0, none⟩ = some (.int .i64 (L - n)) := (hc.set _).cell
  have hwr : IntKind.i64.wrap (L - n) = L - n := by rw [IntKind.wrap_i64]; omega
  clear hc
  go_enter Try.func78, Try.ntmps78
  go_wp2_with fail
  go_ret
  exact ⟨by simp, HC.out⟩
theorem isTooDeep_any (p q : Int) (w : World) : Calls Try.prog 82 #[.agg #[.int .i64 p, .int .i64 q]] w (Tells (q < p) w) := by
  go_enter Try.func82, Try.ntmps82
  go_wp2_with fail
  go_ret
  exact Tells.of (by simp) (bl_a _)
/-- What admits answers. -/
def AdAns (P : Prop) (g : Nat) (L : Int) (w : World) (e : Ending) (w' : World) : Prop := ∃ q : Bool, e = .returned (.bool q) ∧ (q = true ↔ P) ∧ Ctr w' g L ∧ Past g w w'
theorem admits_any (g : Nat) (L p q : Int) (w : World) (hc : Ctr w g L) (h0 : 0 ≤ L) (h1 : L ≤ 100000) :
    Calls Try.prog 64 #[.pointer (some ⟨g, 0, none⟩), .agg #[.int .i64 p, .int .i64 q]] w (AdAns (1 ≤ L ∧ p ≤ q) g (L - 1) w) := by
  have SP := fun o => spares_any g L 1 (w.alloc o) (hc.below (bl_a o)) (by omega) h1 (by omega) (by omega)
  have hg := hc.lt
  clear hc
  go_enter Try.func64, Try.ntmps64
  go_wp2_with fail
  refine (SP _).mono ?_
  rintro e w1 ⟨rfl, hc1, hp1⟩
  have HC1 : Hid (Ctr w1 g (L - 1)) := hc1
  have HP1 : Hid (Past g w w1) := (Past.of_below (bl_a _)).trans hp1
  have x0 : w1.cell? ⟨w.heap.size, 0, none⟩ = some (.int .i64 p) := (hp1.cell (p := ⟨w.heap.size, 0, none⟩) (by simp) (by show w.heap.size ≠ g; omega)).trans (by simp [go_sem])
  have x1 : w1.cell? ⟨w.heap.size, 1, none⟩ = some (.int .i64 q) := (hp1.cell (p := ⟨w.heap.size, 1, none⟩) (by simp) (by show w.heap.size ≠ g; omega)).trans (by simp [go_sem])
  clear SP hc1 hp1
  by_cases hL : 0 ≤ L - 1
  · have hLd : decide (0 ≤ L - 1) = true := by simp; omega
    have TD := isTooDeep_any p q w1
    rw [hLd]
    go_wp2_with fail
    refine TD.mono ?_
    rintro e w2 ⟨q2, rfl, hq2, hb2⟩
    have HC2 : Hid (Ctr w2 g (L - 1)) := HC1.out.below hb2
    have HP2 : Hid (Past g w w2) := HP1.out.trans (Past.of_below hb2)
    have HE : Hid ((!q2) = true ↔ (1 ≤ L ∧ p ≤ q)) := by
      show (_ ↔ _)
      cases q2 with
      | true => exact ⟨fun h => (by cases h), fun h => by have := hq2.1 rfl; omega⟩
      | false => exact ⟨fun _ => ⟨by omega, by
          apply Classical.byContradiction
          intro hn
          have := hq2.2 (by omega)
          cases this⟩, fun _ => rfl⟩
    clear TD hq2 hb2 x0 x1
    go_wp2_with fail
    go_ret
    exact ⟨_, rfl, HE.out, HC2.out, HP2.out⟩
  · have hLd : decide (0 ≤ L - 1) = false := by simp; omega
    rw [hLd]
    go_wp2_with fail
    go_ret
    exact ⟨false, rfl, ⟨fun h => (by cases h), fun h => absurd h.1 (by omega)⟩, HC1.out, HP1.out⟩
theorem placeBelow_any (p q : Int) (w : World) (h0 : 0 ≤ p) (h1 : p ≤ 100000) : Calls Try.prog 68 #[.agg #[.int .i64 p, .int .i64 q]] w fun e w' => e = .returned (.agg #[.int .i64 (p + 1), .int .i64 q]) ∧ Below w.heap.size w w' := by
  go_enter Try.func68, Try.ntmps68
  go_wp2_with fail
  refine bodyPost_ret (v := .agg #[.int .i64 (p + 1), .int .i64 q]) (by simp [results, Try.results68, go_sem]) rfl ?_
  exact ⟨rfl, bl_alloc (bl_a _) _⟩
theorem isZeroT_any (x : TB) (w : World) (h : BsF 0 w x.sl) :
    Calls Try.prog 112 #[.agg #[.int .i64 x.t.k, .slice x.t.a x.t.len x.t.cap, .int .i64 x.t.n, .int .i64 x.t.s]] w (Tells (zeroT x.td) w) := by
  have HL : Hid (x.b = [] ↔ x.t.len = 0) := nil_len h.1.1
  clear h
  by_cases h0 : x.t.k = 0
  rotate_left
  · go_enter Try.func112, Try.ntmps112
    go_wp2
    go_ret
    exact Tells.no (P := zeroT x.td) (fun hp => h0 hp.1) (bl_a _)
  by_cases h1 : x.t.len = 0
  rotate_left
  · go_enter Try.func112, Try.ntmps112
    go_wp2
    go_ret
    exact Tells.no (P := zeroT x.td) (fun hp => h1 (HL.out.1 hp.2.1)) (bl_a _)
  by_cases h2 : x.t.n = 0
  rotate_left
  · go_enter Try.func112, Try.ntmps112
    go_wp2
    go_ret
    exact Tells.no (P := zeroT x.td) (fun hp => h2 hp.2.2.1) (bl_a _)
  by_cases h3 : x.t.s = 0
  rotate_left
  · have h3' : (x.t.s == 0) = false := by simp [h3]
    go_enter Try.func112, Try.ntmps112
    go_wp2
    go_ret
    exact Tells.no (P := zeroT x.td) (fun hp => h3 hp.2.2.2) (bl_a _)
  · have HP : Hid (zeroT x.td) := ⟨h0, HL.out.2 h1, h2, h3⟩
    go_enter Try.func112, Try.ntmps112
    go_wp2
    go_ret
    exact Tells.yes HP.out (bl_a _)
theorem isBare_any (d : EN) (w : World) (hv : BsF 0 w d.v) (ht : BsF 0 w d.t.sl) : Calls Try.prog 107 #[.agg #[.int .i64 d.k, .int .i64 d.op, .slice d.v.a d.v.len d.v.cap, .int .i64 d.t.t.k, .slice d.t.t.a d.t.t.len d.t.t.cap, .int .i64 d.t.t.n, .int .i64 d.t.t.s, .slice d.ka d.n d.kc]] w (Tells (d.op = 0 ∧ d.v.b = [] ∧ zeroT d.t.td) w) := by
  have HL : Hid (d.v.b = [] ↔ d.v.len = 0) := nil_len hv.1.1
  have HZ : Hid (∀ W, Below w.heap.size w W → Calls Try.prog 112 #[.agg #[.int .i64 d.t.t.k, .slice d.t.t.a d.t.t.len d.t.t.cap, .int .i64 d.t.t.n, .int .i64 d.t.t.s]] W (Tells (zeroT d.t.td) W)) := fun W hb => isZeroT_any d.t W (ht.upper (Upper.of_below hb))
  obtain ⟨P, hP⟩ : ∃ P, P = (d.op = 0 ∧ d.v.b = [] ∧ zeroT d.t.td) := ⟨_, rfl⟩
  have HP : Hid (P ↔ (d.op = 0 ∧ d.v.b = [] ∧ zeroT d.t.td)) := (show (P ↔ _) by rw [hP])
  rw [← hP]
  clear hv ht hP
  by_cases h1 : d.op = 0
  rotate_left
  · go_enter Try.func107, Try.ntmps107
    go_wp2
    go_ret
    exact Tells.no (fun hp => h1 (HP.out.1 hp).1) (bl_a _)
  by_cases h2 : d.v.len = 0
  rotate_left
  · go_enter Try.func107, Try.ntmps107
    go_wp2
    go_ret
    exact Tells.no (fun hp => h2 (HL.out.1 (HP.out.1 hp).2.1)) (bl_a _)
  have H3 : Hid (d.op = 0 ∧ d.v.b = []) := ⟨h1, HL.out.2 h2⟩
  have Z := HZ.out
  go_enter Try.func107, Try.ntmps107
  go_wp2_with fail
  refine (Z _ (bl_a _)).mono ?_
  rintro e w1 ⟨q1, rfl, hq1, hb1⟩
  have HQ : Hid (q1 = true ↔ P) := (show (q1 = true ↔ P) from hq1.trans ⟨fun h => HP.out.2 ⟨H3.out.1, H3.out.2, h⟩, fun h => (HP.out.1 h).2.2⟩)
  have HB : Hid (Below w.heap.size w w1) := bl_trans (bl_a _) hb1
  clear Z hq1 hb1
  go_wp2_with fail
  go_ret
  exact Tells.of HQ.out HB.out
theorem isZeroE_any (e : ET) (w : World) (h : e.lies 0 w) : Calls Try.prog 105 #[.agg #[.int .i64 e.d.k, .int .i64 e.d.op, .slice e.d.v.a e.d.v.len e.d.v.cap, .int .i64 e.d.t.t.k, .slice e.d.t.t.a e.d.t.t.len e.d.t.t.cap, .int .i64 e.d.t.t.n, .int .i64 e.d.t.t.s, .slice e.d.ka e.d.n e.d.kc]] w (Tells (zeroE e) w) := by
  cases e with
  | nil => exact False.elim h
  | mk d kid =>
  obtain ⟨hv, ht, _⟩ := h
  show Calls Try.prog 105 #[.agg #[.int .i64 d.k, .int .i64 d.op, .slice d.v.a d.v.len d.v.cap, .int .i64 d.t.t.k, .slice d.t.t.a d.t.t.len d.t.t.cap, .int .i64 d.t.t.n, .int .i64 d.t.t.s, .slice d.ka d.n d.kc]] w (Tells (zeroE (.mk d kid)) w)
  have HZ : Hid (∀ W, Below w.heap.size w W → Calls Try.prog 107 #[.agg #[.int .i64 d.k, .int .i64 d.op, .slice d.v.a d.v.len d.v.cap, .int .i64 d.t.t.k, .slice d.t.t.a d.t.t.len d.t.t.cap, .int .i64 d.t.t.n, .int .i64 d.t.t.s, .slice d.ka d.n d.kc]] W (Tells (d.op = 0 ∧ d.v.b = [] ∧ zeroT d.t.td) W)) := fun W hb => isBare_any d W (hv.upper (Upper.of_below hb)) (ht.upper (Upper.of_below hb))
  obtain ⟨P, hP⟩ : ∃ P, P = zeroE (.mk d kid) := ⟨_, rfl⟩
  have HP : Hid (P ↔ (d.k = 0 ∧ d.op = 0 ∧ d.v.b = [] ∧ zeroT d.t.td ∧ d.n = 0)) := (show (P ↔ _) by rw [hP]; exact Iff.rfl)
  rw [← hP]
  clear hv ht hP
  by_cases h0 : d.k = 0
  rotate_left
  · go_enter Try.func105, Try.ntmps105
    go_wp2
    go_ret
    exact Tells.no (fun hp => h0 (HP.out.1 hp).1) (bl_a _)
  by_cases h5 : d.n = 0
  rotate_left
  · go_enter Try.func105, Try.ntmps105
    go_wp2
    go_ret
    exact Tells.no (fun hp => h5 (HP.out.1 hp).2.2.2.2) (bl_a _)
  have H3 : Hid (d.k = 0 ∧ d.n = 0) := ⟨h0, h5⟩
  have Z := HZ.out
  rw [h0, h5] at Z ⊢
  clear HZ h0 h5
  go_enter Try.func105, Try.ntmps105
  go_wp2_with fail
  refine (Z _ (bl_a _)).mono ?_
  rintro e w1 ⟨q1, rfl, hq1, hb1⟩
  have HQ : Hid (q1 = true ↔ P) := (show (q1 = true ↔ P) from hq1.trans ⟨fun h => HP.out.2 ⟨H3.out.1, h.1, h.2.1, h.2.2, H3.out.2⟩, fun h => ⟨(HP.out.1 h).2.1, (HP.out.1 h).2.2.1, (HP.out.1 h).2.2.2.1⟩⟩)
  have HB : Hid (Below w.heap.size w w1) := bl_trans (bl_a _) hb1
  clear Z hq1 hb1
  go_wp2_with fail
  go_ret
  exact Tells.of HQ.out HB.out
/-- How few and how many Kids. -/
def kLo (k : Int) : Int := if k = 2 then 2 else if k = 3 ∨ k = 7 then 1 else if k = 5 then 3 else if k = 6 then 1 else 0
def kHi (k : Int) : Int := if k = 2 then 2 else if k = 3 ∨ k = 7 then 1 else if k = 5 then 3 else if k = 6 then 4 else 0
theorem kidCount_any (k : Int) (w : World) : Calls Try.prog 106 #[.int .i64 k] w fun e w' => e = .returned (.tuple #[.int .i64 (kLo k), .int .i64 (kHi k)]) ∧ w' = w := by
  go_enter Try.func106, Try.ntmps106
  go_wp2
  all_goals go_ret2
  all_goals refine ⟨?_, rfl⟩
  all_goals (unfold kLo kHi; simp_all <;> omega)
end Go.Proofs.Ytpgbhkkdbkecoaa

/- TreP -/
namespace Go.Proofs.Ytpgbhkkdbkecoaa
open Go.RowKit Go.Deep
set_option maxRecDepth 100000

def BareN (d : EN) : Prop := d.op = 0 ∧ d.v.b = [] ∧ zeroT d.t.td

theorem BareN.mk {d : EN} (h1 : d.op = 0) (h2 : d.v.b = []) (h3 : zeroT d.t.td) : BareN d := And.intro h1 (And.intro h2 h3)

theorem wpl_at {P : Program} {ops : Array Oper} {rest : List Oper} {op : Oper} {a : Act} {w : World} {Q : Exit → Act → World → Prop} (h : wpList P ops Q (op :: rest) a w) : wpList P ops Q (op :: rest) a w := h

theorem zeroT0 : zeroT (TB.td ⟨⟨0, none, 0, 0, 0, 0⟩, []⟩) := by unfold zeroT; exact ⟨rfl, rfl, rfl, rfl⟩

end Go.Proofs.Ytpgbhkkdbkecoaa

/- TreP0 -/
namespace Go.Proofs.Ytpgbhkkdbkecoaa
open Go.RowKit Go.Deep
set_option maxRecDepth 100000


set_option maxHeartbeats 4000000 in
theorem hasOwnE_0 (d : EN) (w : World) (hkv : d.k = 0) (hv : BsF 0 w d.v) (ht : BsF 0 w d.t.sl) (_hf : d.t.t.fits) (hn : d.n ≤ 1048576) : Calls Try.prog 89 #[.agg #[.int .i64 d.k, .int .i64 d.op, .slice d.v.a d.v.len d.v.cap, .int .i64 d.t.t.k, .slice d.t.t.a d.t.t.len d.t.t.cap, .int .i64 d.t.t.n, .int .i64 d.t.t.s, .slice d.ka d.n d.kc]] w (Tells (nodeOk d) w) := by
  have KC := fun W => kidCount_any 0 W
  have e1 : kLo 0 = 0 := by decide
  have e2 : kHi 0 = 0 := by decide
  rw [e1, e2] at KC
  clear e1 e2
  have WI := fun W => within_any (d.n : Int) 0 0 W
  have HIB : Hid (∀ W, Below w.heap.size w W → Calls Try.prog 107 #[.agg #[.int .i64 0, .int .i64 d.op, .slice none 0 0, .int .i64 d.t.t.k, .slice d.t.t.a d.t.t.len d.t.t.cap, .int .i64 d.t.t.n, .int .i64 d.t.t.s, .slice d.ka d.n d.kc]] W (Tells (BareN ⟨0, d.op, ⟨none, 0, 0, []⟩, d.t, d.ka, d.kc, d.n⟩) W)) := fun W hb => isBare_any ⟨0, d.op, ⟨none, 0, 0, []⟩, d.t, d.ka, d.kc, d.n⟩ W (bs_nil W) (ht.upper (Upper.of_below hb))
  have HKO : Hid (kOk d.k d.n ↔ ((0 : Int) ≤ (d.n : Int) ∧ (d.n : Int) ≤ 0)) := (show (_ ↔ _) by rw [hkv]; unfold kOk; omega)
  have HKV : Hid (d.k = 0) := hkv
  have HIN : Hid (∀ W, Below w.heap.size w W → Calls Try.prog 86 #[.slice d.v.a d.v.len d.v.cap] W fun e w' => e = .returned (.bool (nameOk d.v.b)) ∧ w' = W) := fun W hb => isName_any d.v.a d.v.len d.v.cap d.v.b W (hv.upper (Upper.of_below hb)).1
  rw [hkv]
  clear hv ht hkv
  go_enter Try.func89, Try.ntmps89
  go_wp2_with fail
  refine (KC _).mono ?_
  rintro e w1 ⟨rfl, rfl⟩
  clear KC
  go_wp2_with fail
  refine (WI _).mono ?_
  rintro e w1 ⟨rfl, rfl⟩
  clear WI
  by_cases hkn : (0 : Int) ≤ (d.n : Int) ∧ (d.n : Int) ≤ 0
  rotate_left
  · have hw2 : (decide ((0 : Int) ≤ (d.n : Int)) && decide ((d.n : Int) ≤ 0)) = false := by simp; omega
    have HNO : Hid (¬ nodeOk d) := fun hh => hkn (HKO.out.1 hh.1)
    rw [hw2]
    clear hkn hw2
    go_wp2_with fail
    go_ret
    exact Tells.no HNO.out (bl_a _)
  have hw2 : (decide ((0 : Int) ≤ (d.n : Int)) && decide ((d.n : Int) ≤ 0)) = true := by simp; omega
  have HK : Hid (kOk d.k d.n) := HKO.out.2 hkn
  rw [hw2]
  clear hkn hw2 HKO
  have IN := HIN.out
  cases hnm : nameOk d.v.b with
  | false =>
    rw [hnm] at IN
    have HNO : Hid (¬ nodeOk d) := fun hh => by have h := hh.2.1 (by rw [HKV.out]; simp); rw [hnm] at h; cases h
    clear hnm
    go_wp2_with fail
    refine (IN _ (bl_alloc (bl_a _) _)).mono ?_
    rintro e w3 ⟨rfl, rfl⟩
    clear IN
    go_wp2_with fail
    go_ret
    exact Tells.no HNO.out (bl_alloc (bl_a _) _)
  | true =>
    rw [hnm] at IN
    have HNM : Hid (nameOk d.v.b = true) := hnm
    clear hnm
    go_wp2_with fail
    refine (IN _ (bl_alloc (bl_a _) _)).mono ?_
    rintro e w3 ⟨rfl, rfl⟩
    clear IN
    go_wp2_with fail
    refine (HIB.out _ (bl_alloc (bl_a _) _)).mono ?_
    rintro e w9 ⟨q9, rfl, hq9, hb9⟩
    have HE : Hid (q9 = true ↔ nodeOk d) := (show (q9 = true ↔ nodeOk d) from hq9.trans ⟨fun h => ⟨HK.out, fun _ => HNM.out, fun h2 => absurd (by rw [HKV.out]; simp) h2, fun h2 => absurd h2 (by rw [HKV.out]; decide), fun _ => h.2.2, ⟨by rw [h.1]; decide, by rw [h.1]; decide⟩, fun _ => h.1⟩, fun h => BareN.mk (h.2.2.2.2.2.2 (by rw [HKV.out]; decide)) rfl (h.2.2.2.2.1 (by rw [HKV.out]; decide))⟩)
    have HB9 : Hid (Below w.heap.size w w9) := bl_trans (bl_alloc (bl_a _) _) hb9
    clear hq9 hb9
    go_wp2_with fail
    go_ret
    exact Tells.of HE.out HB9.out

end Go.Proofs.Ytpgbhkkdbkecoaa
