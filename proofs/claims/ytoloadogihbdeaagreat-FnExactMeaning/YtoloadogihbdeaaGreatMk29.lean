import Derived.Test.YtoloadogihbdeaaGreatMk28
namespace Go.Proofs.YtoloadogihbdeaaGreat
open Go.RowKit Go.Deep
set_option maxHeartbeats 40000000
set_option maxRecDepth 100000
theorem wpq_load {P : Program} {ops : Array Oper} {rest : List Oper} {op : Oper} {a : Act} {w : World} {Q : Exit → Act → World → Prop} (hw : Region.wanted op (yielded ops a.tmps) = true) (ty : TypeId) (x : Operand) (ho : op.op = .load ty x)
 (b o : Nat) (hx : a.eval x = .pointer (some ⟨b, o, none⟩)) (cs : List Value) (d : TypeDesc) (hc : w.rangeAt b o cs)
 (hu : P.underlying ty = some d) (hd : d.isRow = true) (hi : (P.info? ty).map (·.size) = some cs.length)
 (h : wpList P ops Q rest (a.put op.dst (.agg cs.toArray)) w) : wpList P ops Q (op :: rest) a w :=
 BigFrame.wpList_want hw fun _ hK => wp_load_mid ty x ho b o hx cs d hc hu hd hi (hK _ _ h)
def planOk (e : PT) : Prop := pOk e 1 ∧ psz e ≤ 1440 ∧ (pV e []).length ≤ 8
theorem specPlanOk_any (e : PT) (w : World) (h : e.lies 0 w) : Calls Tryz.prog 29 #[.agg e.d.ar] w (Tells (planOk e) w) := by
 try unfold PN.ar
 have A1 := fun (W : World) (g : Nat) (hb : Bl w W) (hg : w.heap.size ≤ g) (hc : Ctr W g 1440) => l7planOk_any e 1 1440 g w W h hb hg hc (by omega) (by omega) (by omega) (by omega)
 have HV : Hd (∀ W, Bl w W → pc e ≤ 1000000 → Cl 76 #[.slice none 0 0, .agg e.d.ar] W (AddAns w W.heap.size (.slice none 0 0) (pV e []) W)) := fun W hb ha => l7vars_any e (.slice none 0 0) [] W.heap.size w W h (VL.nil _ _ _) hb (by simpa using ha) nR hb.size
 have HAC : Hd (pOk e 1 → pc e ≤ 5 * psz e) := fun h => pc_le h
 clear h
 go_enter Tryz.func29, Tryz.ntmps29
 go_upto_region 2 with fail
 obtain ⟨W1, hW1⟩ : ∃ W1, W1 = (w.alloc (.cells e.d.ar 46)).alloc (.cells #[.int .i64 1440] 3) := ⟨_, rfl⟩
 have HX : Hd (Box W1 w.heap.size e.d.cells) := (show Box _ _ _ by rw [hW1]; exact (Box.new w e.d.ar 46 _).below (bl_a _))
 have HC : Hd (Ctr W1 (w.heap.size + 1) 1440) := (show Ctr _ _ _ by rw [hW1]; exact ⟨by simp, by simp [go_sem], by simp [go_sem]⟩)
 have HB : Hd (Bl w W1) := (show Below _ _ _ by rw [hW1]; exact bl_alloc (bl_a _) _)
 rw [← hW1]
 clear hW1
 have A2 := A1 W1 (w.heap.size + 1) HB.o (Nat.le_succ _) HC.o
 have lr : W1.rangeAt w.heap.size 0 e.d.cl := HX.o.range 0 _ rfl
 clear A1
 go_wp2_with (with_reducible refine wpq_at ?_; refine ldr rfl rfl rfl Tryz.underlying46 lr rfl ?_; try simp only [Act.put, sA, zA, cA])
 refine A2.mono ?_
 rintro r w2 ⟨q, L', rfl, hq, _, hc2, hp2⟩
 have HB2 : Hd (Bl w w2) := HB.o.trans (hp2.below (Nat.le_succ _) HB.o.size)
 have HX2 : Hd (Box w2 w.heap.size e.d.cells) := HX.o.past hp2 (by omega)
 clear A2 lr hc2 hp2
 cases q
 · have HNO : Hd (¬ planOk e) := fun hh => by
    have h1 := hq.2 ⟨hh.1, by have := hh.2.1; omega⟩
    cases h1
   clear hq
   go_wp2
   go_ret
   exact Tells.no HNO.o HB2.o
 obtain ⟨h1, h2⟩ := hq.1 rfl
 have HOK : Hd (pOk e 1 ∧ psz e ≤ 1440) := ⟨h1, by omega⟩
 have V := HV.o w2 HB2.o (by have h3 := HAC.o h1; omega)
 clear hq h1 h2
 have lr : w2.rangeAt w.heap.size 0 e.d.cl := HX2.o.range 0 _ rfl
 go_wp2_with (with_reducible refine wpq_at ?_; refine Hd.o ?_)
 change wpList _ _ _ _ _ _
 refine wpq_load ?hw 46 _ rfl w.heap.size 0 rfl e.d.cl _ lr Tryz.underlying46 rfl (by kernel_rfl) ?_
 case hw => rfl
 simp only [Act.put, sA, zA, cA]
 go_wp2_with fail
 refine V.mono ?_
 rintro r w3 ⟨v3, L3, rfl, hV3, hR3, hK3⟩
 obtain ⟨a3, c3, rfl, _⟩ := hV3.form
 have hb3 : Bl w2 w3 := hK3.low (fun g hg => by cases hg) nR
 have HB3 : Hd (Bl w w3) := bl_trans HB2.o hb3
 obtain ⟨n3, hn3⟩ : ∃ n3, n3 = L3.length := ⟨_, rfl⟩
 have HE : Hd ((decide ((n3 : Int) ≤ 8)) = true ↔ planOk e) := by
  show (_ ↔ _)
  rw [decide_eq_true_iff]
  have h4 : (pV e []).length = n3 := by rw [← hR3, List.length_map, hn3]
  exact ⟨fun h => ⟨HOK.o.1, HOK.o.2, by omega⟩, fun h => by have := h.2.2; omega⟩
 rw [← hn3]
 clear V hV3 hR3 hK3 hb3 hn3 lr
 go_wp2
 go_ret
 exact Tells.of HE.o HB3.o
theorem tds_same {l l' : List TB} (h : l.map TB.td = l'.map TB.td) : l.length = l'.length ∧ ((∀ x ∈ l, x.td.ok = true) ↔ ∀ x ∈ l', x.td.ok = true) := by
 refine ⟨by have := congrArg List.length h; simpa using this, ?_⟩
 have e : ∀ m : List TB, (∀ x ∈ m, x.td.ok = true) ↔ ∀ y ∈ m.map TB.td, y.ok = true := fun m => by simp
 rw [e l, e l', h]
theorem IB.same.symm {x y : IB} (h : x.same y) : y.same x := ⟨h.1.symm, h.2.symm⟩
theorem PB.same.symm {x y : PB} (h : x.same y) : y.same x := ⟨h.1.symm, h.2.1.symm, h.2.2.symm⟩
theorem ET.same.symm {e : ET} : ∀ {e' : ET}, e.same e' → e'.same e := by
 induction e with
 | nil => exact fun h => False.elim h
 | mk d kid ih =>
  intro e' h
  cases e' with
  | nil => exact False.elim h
  | mk d' kid' =>
  obtain ⟨h0, h1, h2, h3, h4, h5⟩ := h
  exact ⟨h0.symm, h1.symm, h2.symm, h3.symm, h4.symm, fun i hi => ih i (h5 i (by omega))⟩
theorem IB.same.trans {x y z : IB} (h : x.same y) (k : y.same z) : x.same z := ⟨h.1.trans k.1, h.2.trans k.2⟩
theorem PB.same.trans {x y z : PB} (h : x.same y) (k : y.same z) : x.same z := ⟨h.1.trans k.1, h.2.1.trans k.2.1, h.2.2.trans k.2.2⟩
theorem ET.same.trans {e : ET} : ∀ {e' e'' : ET}, e.same e' → e'.same e'' → e.same e'' := by
 induction e with
 | nil => exact fun h => False.elim h
 | mk d kid ih =>
  intro e' e'' h k
  cases e' with
  | nil => exact False.elim h
  | mk d' kid' =>
  cases e'' with
  | nil => exact False.elim k
  | mk d'' kid'' =>
  obtain ⟨h0, h1, h2, h3, h4, h5⟩ := h
  obtain ⟨k0, k1, k2, k3, k4, k5⟩ := k
  exact ⟨h0.trans k0, h1.trans k1, h2.trans k2, h3.trans k3, h4.trans k4, fun i hi => ih i (h5 i hi) (k5 i (by omega))⟩
theorem ptV_same {x y : PB} (h : x.same y) (l : List (List Int)) : ptV x l = ptV y l := by
 unfold ptV
 rw [h.1.1, h.2.1.1, h.2.2.1]
theorem terms_keep {B : Nat} {w w' : World} {a : Option Addr} {l : List TB} (h : TRowF B w a l) (hz : RoZ B w a l.length 4) (ht : ∀ x ∈ l, TxW B w x.sl) (hk : Stay (tfp a l) w w') : TRowF B w' a l ∧ RoZ B w' a l.length 4 ∧ ∀ x ∈ l, TxW B w' x.sl := by
 have hx : ∀ x ∈ l, (x.own B w') := fun x hx => by
  obtain ⟨i, hi, e⟩ := List.getElem_of_mem hx
  have e2 : tbN l i = x := by unfold tbN; rw [List.getElem?_eq_getElem hi, e]; rfl
  have h2 := hk.right.kid (i := i) hi
  simp only [e2] at h2
  exact TB.own.keep (w := w) ⟨h.2.2 x hx, ht x hx⟩ h2
 refine ⟨⟨?_, h.2.1, fun x h2 => (hx x h2).1⟩, ?_, fun x h2 => (hx x h2).2⟩
 · rcases h.1 with e | ⟨b, off, ha, hlt, hc⟩
   · exact .inl e
   by_cases h0 : l = []
   · exact .inl h0
   have hn : l.length ≠ 0 := fun e => h0 (List.eq_nil_of_length_eq_zero e)
   have hs := hk.left
   unfold rfp at hs
   rw [if_neg hn] at hs
   have hb : w'.heap[b]? = w.heap[b]? := hs.1 b (by rw [ha]; simp [blk])
   exact .inr ⟨b, off, ha, Nat.lt_of_lt_of_le hlt hk.2, fun j u hu => (World.cell?_of_block (w := w) (a := ⟨b, off + j, none⟩) hb).trans (hc j u hu)⟩
 exact (row_keep (C := fun _ => []) (hz.elim .inl fun ⟨g, e, hF⟩ => by
  by_cases h0 : l.length = 0
  · exact .inl h0
  rcases hF with hF | ⟨h1, h2, _⟩
  · omega
  exact .inr ⟨g, 0, e, h1, h2, fun i hi c u hu => by simp at hu⟩) hz hk.left).2
def AT.wz (B : Nat) (w : World) : AT → Prop
 | .nil => False
 | .mk d kid => RoZ B w d.pa d.pn 15 ∧ (∀ i, i < d.pn → (d.pat i).own B w) ∧ d.e.wz B w ∧ TxW B w d.v ∧ (RoZ B w d.ta d.tb.length 4 ∧ ∀ x ∈ d.tb, TxW B w x.sl) ∧ RoZ B w d.ka d.n 13 ∧ ∀ i, i < d.n → (kid i).wz B w
def AT.fp : AT → List Nat
 | .nil => []
 | .mk d kid => (rfp d.pa d.pn ++ catB (fun i => (d.pat i).fp) d.pn) ++ d.e.fp ++ d.v.fp ++ tfp d.ta d.tb ++ (rfp d.ka d.n ++ catB (fun i => (kid i).fp) d.n)
structure AT.ow (B : Nat) (w : World) (e : AT) : Prop where
 l : e.lies B w
 z : e.wz B w
theorem AT.ow.upper {B : Nat} {w w' : World} {e : AT} (h : e.ow B w) (hu : Upper B w w') : e.ow B w' := by
 refine ⟨AT.lies.upper hu h.l, ?_⟩
 obtain ⟨hl, hz⟩ := h
 induction e with
 | nil => exact hz
 | mk d kid ih =>
  obtain ⟨z1, z2, z3, z4, ⟨z5, z6⟩, z7, z8⟩ := hz
  exact ⟨z1.upper hu, fun i hi => (z2 i hi).upper hu, (ET.ow.upper ⟨hl.2.2.2.1, z3⟩ hu).z, z4.upper hu, ⟨z5.upper hu, fun x hx => (z6 x hx).upper hu⟩, z7.upper hu, fun i hi => ih i (hl.2.2.2.2.2.2.2.2.2 i hi) (z8 i hi)⟩
theorem AT.ow.base {B B' : Nat} {w : World} {e : AT} (h : e.ow B w) (hB : B' ≤ B) : e.ow B' w := by
 refine ⟨AT.lies.base hB h.l, ?_⟩
 obtain ⟨hl, hz⟩ := h
 induction e with
 | nil => exact hz
 | mk d kid ih =>
  obtain ⟨z1, z2, z3, z4, ⟨z5, z6⟩, z7, z8⟩ := hz
  exact ⟨z1.base hB, fun i hi => (z2 i hi).base hB, (ET.ow.base ⟨hl.2.2.2.1, z3⟩ hB).z, z4.base hB, ⟨z5.base hB, fun x hx => (z6 x hx).base hB⟩, z7.base hB, fun i hi => ih i (hl.2.2.2.2.2.2.2.2.2 i hi) (z8 i hi)⟩
theorem AT.ow.keep {B : Nat} {w w' : World} {e : AT} (h : e.ow B w) (hk : Stay e.fp w w') : e.ow B w' := by
 obtain ⟨hl, hz⟩ := h
 induction e with
 | nil => exact False.elim hl
 | mk d kid ih =>
  obtain ⟨l1, l2, l3, l4, l5, l6, l7, l8, l9, l10⟩ := hl
  obtain ⟨z1, z2, z3, z4, ⟨z5, z6⟩, z7, z8⟩ := hz
  have a1 := row_keep l1 z1 hk.left.left.left.left.left
  have a2 := fun i (hi : i < d.pn) => (z2 i hi).keep (hk.left.left.left.left.right.kid hi)
  have a3 := ET.ow.keep ⟨l4, z3⟩ hk.left.left.left.right
  have a4 := SL.own.keep (x := d.v) ⟨l5, z4⟩ hk.left.left.right
  have a5 := terms_keep l6 z5 z6 hk.left.right
  have a6 := row_keep l9 z7 hk.right.left
  have a7 := fun i hi => ih i (hk.right.right.kid hi) (l10 i hi) (z8 i hi)
  exact ⟨⟨a1.1, fun i hi => (a2 i hi).lies, l3, a3.l, a4.1, a5.1, l7, l8, a6.1, fun i hi => (a7 i hi).l⟩, ⟨a1.2, a2, a3.z, a4.2, a5.2, a6.2, fun i hi => (a7 i hi).z⟩⟩
def Bgp1 (p : PB) : AT → Prop
 | .nil => False
 | .mk a _ => a.k = 0 ∧ a.pn = 1 ∧ p.same (a.pat 0) ∧ zeroE a.e ∧ a.v.b = [] ∧ a.tb = [] ∧ a.n = 0
def Mean : PT → AT → Prop
 | .mk d kid, .mk a ak => a.pn = 0 ∧ d.e.same a.e ∧ d.v.b = a.v.b ∧ d.tb.map TB.td = a.tb.map TB.td ∧ ((d.k ≠ 0 ∧ (d.k = 8 → a.k = 0) ∧ (d.k ≠ 8 → a.k = d.k) ∧ a.n = d.n ∧ ∀ i, i < d.n → Mean (kid i) (ak i)) ∨ (d.k = 0 ∧ a.k = 1 ∧ a.n = 2 ∧ Mean (kid 0) (ak 0) ∧ Bgp1 d.p (ak 1)))
 | _, _ => False
theorem zeroE_two {e e' : ET} (hl : e ≠ .nil) (hl' : e' ≠ .nil) (h : zeroE e) (h' : zeroE e') : e.same e' := by
 cases e with
 | nil => exact absurd rfl hl
 | mk d kid =>
  cases e' with
  | nil => exact absurd rfl hl'
  | mk d' kid' =>
   obtain ⟨a1, a2, a3, ⟨a4, a5, a6, a7⟩, a8⟩ := h
   obtain ⟨b1, b2, b3, ⟨b4, b5, b6, b7⟩, b8⟩ := h'
   refine ⟨a1.trans b1.symm, a2.trans b2.symm, a3.trans b3.symm, ?_, a8.trans b8.symm, fun i hi => ?_⟩
   · cases hd : d.t.td with
     | mk k bs n s =>
      cases hd' : d'.t.td with
      | mk k' bs' n' s' =>
       simp only [ET.d, hd, hd'] at a4 a5 a6 a7 b4 b5 b6 b7
       subst a4 a5 a6 a7 b4 b5 b6 b7
       rfl
   have : d.n = 0 := a8
   omega
theorem ET.lies.ne {B : Nat} {w : World} {e : ET} (h : e.lies B w) : e ≠ .nil := fun e1 => by rw [e1] at h; exact h
theorem Bgp1.uniq {p : PB} {a b : AT} (ha : Bgp1 p a) (hb : Bgp1 p b) (la : a.d.e ≠ .nil) (lb : b.d.e ≠ .nil) : a.same b := by
 cases a with
 | nil => exact False.elim ha
 | mk a ak =>
  cases b with
  | nil => exact False.elim hb
  | mk b bk =>
   obtain ⟨a1, a2, a3, a4, a5, a6, a7⟩ := ha
   obtain ⟨b1, b2, b3, b4, b5, b6, b7⟩ := hb
   refine ⟨a1.trans b1.symm, a2.trans b2.symm, fun i hi => ?_, zeroE_two la lb a4 b4, a5.trans b5.symm, by rw [a6, b6], a7.trans b7.symm, fun i hi => by omega⟩
   obtain rfl : i = 0 := by omega
   exact a3.symm.trans b3
theorem Mean.uniq {p : PT} : ∀ {a b : AT} {w w' : World}, a.lies 0 w → b.lies 0 w' → Mean p a → Mean p b → a.same b := by
 induction p with
 | nil => intro a b w w' _ _ h; exact False.elim h
 | mk d kid ih =>
  intro a b w w' la lb ha hb
  cases a with
  | nil => exact False.elim la
  | mk a ak =>
   cases b with
   | nil => exact False.elim lb
   | mk b bk =>
    obtain ⟨a1, a2, a3, a4, a5⟩ := ha
    obtain ⟨b1, b2, b3, b4, b5⟩ := hb
    obtain ⟨_, _, _, _, _, _, _, _, _, ka⟩ := la
    obtain ⟨_, _, _, _, _, _, _, _, _, kb⟩ := lb
    have he : a.e.same b.e := a2.symm.trans b2
    rcases a5 with ⟨c1, c2, c3, c4, c5⟩ | ⟨c1, c2, c3, c4, c5⟩
    · rcases b5 with ⟨e1, e2, e3, e4, e5⟩ | ⟨e1, _⟩
      · refine ⟨?_, a1.trans b1.symm, fun i hi => by omega, he, a3.symm.trans b3, a4.symm.trans b4, c4.trans e4.symm, fun i hi => ih i (ka i hi) (kb i (by omega)) (c5 i (by omega)) (e5 i (by omega))⟩
        by_cases h8 : d.k = 8
        · rw [c2 h8, e2 h8]
        rw [c3 h8, e3 h8]
      exact absurd e1 c1
    rcases b5 with ⟨e1, _⟩ | ⟨e1, e2, e3, e4, e5⟩
    · exact absurd c1 e1
    refine ⟨c2.trans e2.symm, a1.trans b1.symm, fun i hi => by omega, he, a3.symm.trans b3, a4.symm.trans b4, c3.trans e3.symm, fun i hi => ?_⟩
    have hi2 : i = 0 ∨ i = 1 := by omega
    rcases hi2 with rfl | rfl
    · exact ih 0 (ka 0 (by omega)) (kb 0 (by omega)) c4 e4
    refine Bgp1.uniq c5 e5 ?_ ?_
    · have h := ka 1 (by omega)
      cases hh : ak 1 with
      | nil => rw [hh] at h; exact False.elim h
      | mk x y => rw [hh] at h; exact h.2.2.2.1.ne
    have h := kb 1 (by omega)
    cases hh : bk 1 with
    | nil => rw [hh] at h; exact False.elim h
    | mk x y => rw [hh] at h; exact h.2.2.2.1.ne
end Go.Proofs.YtoloadogihbdeaaGreat
