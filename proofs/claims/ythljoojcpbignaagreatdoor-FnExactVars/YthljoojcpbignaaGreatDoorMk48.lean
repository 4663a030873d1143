import Derived.Test.YthljoojcpbignaaGreatDoorMk47
namespace Go.Proofs.YthljoojcpbignaaGreatDoor
open Go.RowKit Go.Deep
set_option maxHeartbeats 40000000
set_option maxRecDepth 100000
theorem tds_like {l l' : List TB} (h : l.map TB.td = l'.map TB.td) : l.length = l'.length ∧ ((∀ x ∈ l, x.td.ok = true) → ∀ x ∈ l', x.td.ok = true) ∧ ∀ i, i < l.length → (tbG l i).td = (tbG l' i).td := by
 have hl : l.length = l'.length := by simpa using congrArg List.length h
 have hi : ∀ i, i < l.length → (tbG l i).td = (tbG l' i).td := fun i hi => by
  have h1 := congrArg (fun m : List TD => m[i]?) h
  simp only [List.getElem?_map] at h1
  rw [(tbG_at hi).1, (tbG_at (show i < l'.length by omega)).1]
  rw [List.getElem?_eq_getElem hi, List.getElem?_eq_getElem (show i < l'.length by omega)] at h1
  simpa using h1
 refine ⟨hl, fun hk x hx => ?_, hi⟩
 obtain ⟨i, hi', rfl⟩ := List.getElem_of_mem hx
 have h1 := hi i (by omega)
 rw [(tbG_at (show i < l.length by omega)).1, (tbG_at hi').1] at h1
 rw [← h1]
 exact hk _ (List.getElem_mem _)
theorem IB.same.sym {x y : IB} (h : x.same y) : y.same x := ⟨h.1.symm, h.2.symm⟩
theorem PB.same.sym {x y : PB} (h : x.same y) : y.same x := ⟨h.1.sym, h.2.1.sym, h.2.2.sym⟩
theorem ET.same.sym {e : ET} : ∀ {e' : ET}, e.same e' → e'.same e := by
 induction e with
 | nil => exact fun h => False.elim h
 | mk d kid ih =>
  intro e' h
  cases e' with
  | nil => exact False.elim h
  | mk d' kid' =>
  obtain ⟨h0, h1, h2, h3, h4, h5⟩ := h
  exact ⟨h0.symm, h1.symm, h2.symm, h3.symm, h4.symm, fun i hi => ih i (h5 i (by omega))⟩
theorem IB.same.tra {x y z : IB} (h : x.same y) (k : y.same z) : x.same z := ⟨h.1.trans k.1, h.2.trans k.2⟩
theorem PB.same.tra {x y z : PB} (h : x.same y) (k : y.same z) : x.same z := ⟨h.1.tra k.1, h.2.1.tra k.2.1, h.2.2.tra k.2.2⟩
theorem ET.same.tra {e : ET} : ∀ {e' e'' : ET}, e.same e' → e'.same e'' → e.same e'' := by
 induction e with
 | nil => exact fun h => False.elim h
 | mk d kid ih =>
  intro e' e'' h k
  cases e' with
  | nil => exact False.elim h
  | mk d' kid' =>
  cases e'' with
  | nil => exact False.elim k
  | mk d'' kid'' =>
  obtain ⟨h0, h1, h2, h3, h4, h5⟩ := h
  obtain ⟨k0, k1, k2, k3, k4, k5⟩ := k
  exact ⟨h0.trans k0, h1.trans k1, h2.trans k2, h3.trans k3, h4.trans k4, fun i hi => ih i (h5 i hi) (k5 i (by omega))⟩
theorem UT.same.sym {e : UT} : ∀ {e' : UT}, e.same e' → e'.same e := by
 induction e with
 | nil => exact fun h => False.elim h
 | mk d ka kb ia ib =>
  intro e' h
  cases e' with
  | nil => exact False.elim h
  | mk d' ka' kb' =>
  obtain ⟨h0, h1, h2, h3, h4, ⟨h5, h6⟩, ⟨h7, h8⟩⟩ := h
  exact ⟨h0.symm, h1.sym, h2.sym, h3.symm, h4.symm, ⟨h5.symm, fun i hi => ia i (h6 i (by omega))⟩, ⟨h7.symm, fun i hi => ib i (h8 i (by omega))⟩⟩
theorem UT.same.tra {e : UT} : ∀ {e' e'' : UT}, e.same e' → e'.same e'' → e.same e'' := by
 induction e with
 | nil => exact fun h => False.elim h
 | mk d ka kb ia ib =>
  intro e' e'' h k
  cases e' with
  | nil => exact False.elim h
  | mk d' ka' kb' =>
  cases e'' with
  | nil => exact False.elim k
  | mk d'' ka'' kb'' =>
  obtain ⟨h0, h1, h2, h3, h4, ⟨h5, h6⟩, ⟨h7, h8⟩⟩ := h
  obtain ⟨k0, k1, k2, k3, k4, ⟨k5, k6⟩, ⟨k7, k8⟩⟩ := k
  exact ⟨h0.trans k0, h1.tra k1, h2.tra k2, h3.trans k3, h4.trans k4, ⟨h5.trans k5, fun i hi => ia i (h6 i hi) (k6 i (by omega))⟩, ⟨h7.trans k7, fun i hi => ib i (h8 i hi) (k8 i (by omega))⟩⟩
theorem QY.same.symm {x y : QY} (h : x.same y) : y.same x :=
 ⟨h.ask.symm, h.dis.symm, ⟨h.s.1.symm, fun i hi => have k := h.s.2 i (by rw [h.s.1]; exact hi); ⟨k.1.symm, k.2.1.symm, k.2.2.symm⟩⟩, ⟨h.b.1.symm, fun i hi => (h.b.2 i (by rw [h.b.1]; exact hi)).sym⟩, ⟨h.g.1.symm, fun i hi => Eq.symm (h.g.2 i (by rw [h.g.1]; exact hi))⟩, ⟨h.o.1.symm, fun i hi => have k := h.o.2 i (by rw [h.o.1]; exact hi); ⟨k.1.symm, k.2.symm⟩⟩, h.lim.symm, h.off.symm⟩
theorem QY.same.trans {x y z : QY} (h : x.same y) (k : y.same z) : x.same z :=
 ⟨h.ask.trans k.ask, h.dis.trans k.dis, ⟨h.s.1.trans k.s.1, fun i hi => have a := h.s.2 i hi; have b := k.s.2 i (by rw [← h.s.1]; exact hi); ⟨a.1.trans b.1, a.2.1.trans b.2.1, a.2.2.trans b.2.2⟩⟩, ⟨h.b.1.trans k.b.1, fun i hi => (h.b.2 i hi).tra (k.b.2 i (by rw [← h.b.1]; exact hi))⟩, ⟨h.g.1.trans k.g.1, fun i hi => Eq.trans (h.g.2 i hi) (k.g.2 i (by rw [← h.g.1]; exact hi))⟩, ⟨h.o.1.trans k.o.1, fun i hi => have a := h.o.2 i hi; have b := k.o.2 i (by rw [← h.o.1]; exact hi); ⟨a.1.trans b.1, a.2.trans b.2⟩⟩, h.lim.trans k.lim, h.off.trans k.off⟩
theorem NodeU.like {d d' : UN} (hk : d.k = d'.k) (hp : d.p.same d'.p) (he : d.e.same d'.e) (hv : d.v.b = d'.v.b) (ht : d.tb.map TB.td = d'.tb.map TB.td) (ha : d.an = d'.an) (hb : d.bn = d'.bn) (h : NodeU d) : NodeU d' := by
 obtain ⟨l1, l2, _⟩ := tds_like ht
 refine ⟨hk ▸ h.k0, hk ▸ h.k6, fun hh => (ptOk_same hp).1 (h.p1 (hk ▸ hh)), fun hh => (zeroP_same hp).1 (h.p0 (hk ▸ hh)), fun hh => (zeroE_same he).1 (h.e0 (hk ▸ hh)), fun hh => ?_, fun hh => ?_, fun hh => ?_, l1 ▸ h.tn, l2 h.tm, fun hh => ?_, fun hh => ?_⟩
 · rw [← hv]; exact h.v1 (hk ▸ hh)
 · rw [← hv]; exact h.v0 (hk ▸ hh)
 · have h0 := h.t0 (hk ▸ hh)
   rw [h0] at l1
   exact List.eq_nil_of_length_eq_zero l1.symm
 · rw [← ha]; exact h.a0 (hk ▸ hh)
 rw [← hb]; exact h.b0 (hk ▸ hh)
theorem uOk_imp {e : UT} : ∀ {e' : UT} {deep : Int}, e.same e' → uOk e deep → uOk e' deep := by
 induction e with
 | nil => exact fun h => False.elim h
 | mk d ka kb ia ib =>
  intro e' deep h
  cases e' with
  | nil => exact False.elim h
  | mk d' ka' kb' =>
  obtain ⟨h0, h1, h2, h3, h4, ⟨h5, h6⟩, ⟨h7, h8⟩⟩ := h
  exact fun hh => ⟨hh.1, hh.2.1.like h0 h1 h2 h3 h4 h5 h7, fun hx => (eOk_same h2).1 (hh.2.2.1 (h0 ▸ hx)), fun i hi => ia i (h6 i (by omega)) (hh.2.2.2.1 i (by omega)), fun i hi => ib i (h8 i (by omega)) (hh.2.2.2.2 i (by omega))⟩
theorem usz_same {e : UT} : ∀ {e' : UT}, e.same e' → usz e = usz e' := by
 induction e with
 | nil => exact fun h => False.elim h
 | mk d ka kb ia ib =>
  intro e' h
  cases e' with
  | nil => exact False.elim h
  | mk d' ka' kb' =>
  obtain ⟨h0, h1, h2, h3, h4, ⟨h5, h6⟩, ⟨h7, h8⟩⟩ := h
  have e1 : ownU d = ownU d' := by
   unfold ownU
   rw [h0, esz_same h2]
  rw [usz_mk, usz_mk, e1, ← h5, ← h7, sumN_congr (fun i hi => ia i (h6 i hi)), sumN_congr (fun i hi => ib i (h8 i hi))]
theorem ptV_like {x y : PB} (h : x.same y) (l : List (List Int)) : ptV x l = ptV y l := by
 show addV (addV (addV l x.s.v.b) x.p.v.b) x.o.v.b = addV (addV (addV l y.s.v.b) y.p.v.b) y.o.v.b
 rw [h.1.1, h.2.1.1, h.2.2.1]
theorem uV_same {e : UT} : ∀ {e' : UT} (l : List (List Int)), e.same e' → uV e l = uV e' l := by
 induction e with
 | nil => exact fun l h => False.elim h
 | mk d ka kb ia ib =>
  intro e' l h
  cases e' with
  | nil => exact False.elim h
  | mk d' ka' kb' =>
  obtain ⟨h0, h1, h2, h3, h4, ⟨h5, h6⟩, ⟨h7, h8⟩⟩ := h
  show foldN d.bn _ (foldN d.an _ (addV (eV d.e (ptV d.p l)) d.v.b)) = foldN d'.bn _ (foldN d'.an _ (addV (eV d'.e (ptV d'.p l)) d'.v.b))
  rw [← h5, ← h7, ← h3, ptV_like h1, eV_same h2, foldN_congr (fun i hi a => ia i a (h6 i hi)), foldN_congr (fun i hi a => ib i a (h8 i hi))]
theorem gV_same {n : Nat} {f f' : Nat → UT} (h : ∀ i, i < n → (f i).same (f' i)) (l : List (List Int)) : gV n f l = gV n f' l := foldN_congr (fun i hi a => uV_same a (h i hi)) l
theorem bV_same {e : UT} : ∀ {e' : UT} (l : List (List Int)), e.same e' → bV e l = bV e' l := by
 induction e with
 | nil => exact fun l h => False.elim h
 | mk d ka kb ia ib =>
  intro e' l h
  cases e' with
  | nil => exact False.elim h
  | mk d' ka' kb' =>
  obtain ⟨h0, h1, h2, h3, h4, ⟨h5, h6⟩, ⟨h7, h8⟩⟩ := h
  show (if d.k = 1 ∨ d.k = 2 then foldN d.bn _ (foldN d.an _ (addV (ptV d.p l) d.v.b)) else addV (ptV d.p l) d.v.b) = if d'.k = 1 ∨ d'.k = 2 then foldN d'.bn _ (foldN d'.an _ (addV (ptV d'.p l) d'.v.b)) else addV (ptV d'.p l) d'.v.b
  rw [← h0, ← h5, ← h7, ← h3, ptV_like h1, foldN_congr (fun i hi a => ia i a (h6 i hi)), foldN_congr (fun i hi a => ib i a (h8 i hi))]
theorem UT.same.kv {e e' : UT} (h : e.same e') : e.d.k = e'.d.k ∧ e.d.v.b = e'.d.v.b := by
 cases e with
 | nil => exact False.elim h
 | mk d ka kb =>
  cases e' with
  | nil => exact False.elim h
  | mk d' ka' kb' => exact ⟨h.1, h.2.2.2.1⟩
theorem ubN_imp {n : Nat} {f f' : Nat → UT} (h : ∀ i, i < n → (f i).same (f' i)) {i : Nat} (hi : i < n) (hu : ubN f i) : ubN f' i := by
 intro hh
 refine hu ⟨by rw [(h i hi).kv.1]; exact hh.1, ?_⟩
 rw [(h i hi).kv.2, foldN_congr (fun j hj a => bV_same a (h j (by omega)))]
 exact hh.2
theorem ubd_imp {e : UT} : ∀ {e' : UT}, e.same e' → ubd e → ubd e' := by
 induction e with
 | nil => exact fun h => False.elim h
 | mk d ka kb ia ib =>
  intro e' h
  cases e' with
  | nil => exact False.elim h
  | mk d' ka' kb' =>
  obtain ⟨h0, h1, h2, h3, h4, ⟨h5, h6⟩, ⟨h7, h8⟩⟩ := h
  exact fun hh => ⟨fun i hi => ⟨ubN_imp h6 (by omega) (hh.1 i (by omega)).1, ia i (h6 i (by omega)) (hh.1 i (by omega)).2⟩, fun i hi => ⟨ubN_imp h8 (by omega) (hh.2 i (by omega)).1, ib i (h8 i (by omega)) (hh.2 i (by omega)).2⟩⟩
theorem gBd_imp {n : Nat} {f f' : Nat → UT} (h : ∀ i, i < n → (f i).same (f' i)) (hb : gBd n f) : gBd n f' := fun i hi => ⟨ubN_imp h hi (hb i hi).1, ubd_imp (h i hi) (hb i hi).2⟩
theorem tTx_same {t t' : TB} (h : t.td = t'.td) : tTx t = tTx t' := by
 simp only [TB.td, TD.mk.injEq] at h
 obtain ⟨h1, h2, h3, h4⟩ := h
 show showL t.t.k t.t.n t.t.s t.b ++ [32] = showL t'.t.k t'.t.n t'.t.s t'.b ++ [32]
 rw [h1, h2, h3, h4]
theorem itTx_same {x y : IB} (h : x.same y) : itTx x = itTx y := by
 unfold itTx
 rw [h.1, tTx_same h.2]
theorem eTx_same {lim : Int} {e : ET} : ∀ {e' : ET} {deep : Int}, e.same e' → eOk lim e deep → eTx e = eTx e' := by
 induction e with
 | nil => exact fun h => False.elim h
 | mk d kid ih =>
  intro e' deep h hok
  cases e' with
  | nil => exact False.elim h
  | mk d' kid' =>
  obtain ⟨h0, h1, h2, h3, h4, h5⟩ := h
  obtain ⟨_, ⟨hk, _⟩, hkid⟩ := hok
  have hi := fun i (hi : i < d.n) => ih i (h5 i hi) (hkid i hi)
  rw [eTx_mk, eTx_mk, ← h0, ← h1, ← h2, ← h4, tTx_same h3, catN_congr hi]
  unfold kOk at hk
  rcases hk with ⟨hk, hn⟩ | ⟨hk, hn⟩ | ⟨hk, hn⟩ | ⟨hk, hn⟩ | ⟨hk, hn1, hn2⟩
  · rcases hk with hk | hk | hk <;> simp [hk]
  · have e0 := hi 0 (by omega)
    rcases hk with hk | hk <;> simp [hk, e0]
  · have e0 := hi 0 (by omega)
    have e1 := hi 1 (by omega)
    simp [hk, e0, e1]
  · have e0 := hi 0 (by omega)
    have e1 := hi 1 (by omega)
    have e2 := hi 2 (by omega)
    simp [hk, e0, e1, e2]
  simp [hk]
theorem uTx_same {e : UT} : ∀ {e' : UT} {deep : Int}, e.same e' → uOk e deep → uTx e = uTx e' := by
 induction e with
 | nil => exact fun h => False.elim h
 | mk d ka kb ia ib =>
  intro e' deep h hok
  cases e' with
  | nil => exact False.elim h
  | mk d' ka' kb' =>
  obtain ⟨h0, h1, h2, h3, h4, ⟨h5, h6⟩, ⟨h7, h8⟩⟩ := h
  obtain ⟨_, hN, hX, hA, hB⟩ := hok
  obtain ⟨l1, _, l3⟩ := tds_like h4
  have ea : catN d.an (fun i => uTx (ka i)) = catN d'.an (fun i => uTx (ka' i)) := by rw [← h5]; exact catN_congr (fun i hi => ia i (h6 i hi) (hA i hi))
  have eb : catN d.bn (fun i => uTx (kb i)) = catN d'.bn (fun i => uTx (kb' i)) := by rw [← h7]; exact catN_congr (fun i hi => ib i (h8 i hi) (hB i hi))
  have et : catN d.tb.length (fun i => tTx (tbG d.tb i)) = catN d'.tb.length (fun i => tTx (tbG d'.tb i)) := by rw [← l1]; exact catN_congr (fun i hi => tTx_same (l3 i hi))
  have e4 := fun (hx : d.k = 4 ∨ d.k = 5) => eTx_same h2 (hX hx)
  rw [uTx_at (e := .mk d ka kb) (fun h => UT.noConfusion h), uTx_at (e := .mk d' ka' kb') (fun h => UT.noConfusion h)]
  show (if d.k = 0 then itTx d.p.s ++ (itTx d.p.p ++ (itTx d.p.o ++ [46, 32])) else if d.k = 1 then [79, 80, 84, 73, 79, 78, 65, 76, 32] ++ ([123, 32] ++ (catN d.an (fun i => uTx (ka i)) ++ [125, 32]))
   else if d.k = 2 then [85, 78, 73, 79, 78, 32] ++ (([123, 32] ++ (catN d.an (fun i => uTx (ka i)) ++ [125, 32])) ++ ([123, 32] ++ (catN d.bn (fun i => uTx (kb i)) ++ [125, 32]))) else if d.k = 3 then [77, 73, 78, 85, 83, 32] ++ ([123, 32] ++ (catN d.an (fun i => uTx (ka i)) ++ [125, 32])) else if d.k = 4 then [70, 73, 76, 84, 69, 82, 32] ++ eTx d.e else if d.k = 5 then [66, 73, 78, 68, 32] ++ (eTx d.e ++ vTx d.v.b)
   else [86, 65, 76, 85, 69, 83, 32] ++ (vTx d.v.b ++ ([123, 32] ++ (catN d.tb.length (fun i => tTx (tbG d.tb i)) ++ [125, 32])))) =
   if d'.k = 0 then itTx d'.p.s ++ (itTx d'.p.p ++ (itTx d'.p.o ++ [46, 32])) else if d'.k = 1 then [79, 80, 84, 73, 79, 78, 65, 76, 32] ++ ([123, 32] ++ (catN d'.an (fun i => uTx (ka' i)) ++ [125, 32]))
   else if d'.k = 2 then [85, 78, 73, 79, 78, 32] ++ (([123, 32] ++ (catN d'.an (fun i => uTx (ka' i)) ++ [125, 32])) ++ ([123, 32] ++ (catN d'.bn (fun i => uTx (kb' i)) ++ [125, 32]))) else if d'.k = 3 then [77, 73, 78, 85, 83, 32] ++ ([123, 32] ++ (catN d'.an (fun i => uTx (ka' i)) ++ [125, 32])) else if d'.k = 4 then [70, 73, 76, 84, 69, 82, 32] ++ eTx d'.e else if d'.k = 5 then [66, 73, 78, 68, 32] ++ (eTx d'.e ++ vTx d'.v.b)
   else [86, 65, 76, 85, 69, 83, 32] ++ (vTx d'.v.b ++ ([123, 32] ++ (catN d'.tb.length (fun i => tTx (tbG d'.tb i)) ++ [125, 32])))
  rw [← h0, ← h3, ea, eb, et, itTx_same h1.1, itTx_same h1.2.1, itTx_same h1.2.2]
  by_cases hx : d.k = 4 ∨ d.k = 5
  · rw [e4 hx]
  have n4 : ¬ d.k = 4 := fun h => hx (.inl h)
  have n5 : ¬ d.k = 5 := fun h => hx (.inr h)
  simp only [n4, n5, if_false]
theorem gTx_same {n : Nat} {f f' : Nat → UT} {deep : Int} (h : ∀ i, i < n → (f i).same (f' i)) (hk : ∀ i, i < n → uOk (f i) deep) : gTx n f = gTx n f' := by
 unfold gTx
 rw [catN_congr (fun i hi => uTx_same (h i hi) (hk i hi))]
theorem selTx_same {s t : SE} (h : s.same t) : selTx s = selTx t := by
 unfold selTx
 rw [h.1, h.2.1, h.2.2]
theorem keyTx_same {s t : KY} (h : s.same t) : keyTx s = keyTx t := by
 unfold keyTx
 rw [h.1, h.2]
theorem qTx_same {x y : QY} (h : x.same y) (hb : bodyOk x) : qTx x = qTx y := by
 have e1 : catN x.sn (fun i => selTx (x.sel i)) = catN y.sn (fun i => selTx (y.sel i)) := by rw [← h.s.1]; exact catN_congr (fun i hi => selTx_same (h.s.2 i hi))
 have e2 : catN x.gn (fun i => vTx (x.grp i).b) = catN y.gn (fun i => vTx (y.grp i).b) := by rw [← h.g.1]; exact catN_congr (fun i hi => congrArg vTx (h.g.2 i hi))
 have e3 : catN x.on (fun i => keyTx (x.key i)) = catN y.on (fun i => keyTx (y.key i)) := by rw [← h.o.1]; exact catN_congr (fun i hi => keyTx_same (h.o.2 i hi))
 have e4 : gTx x.bn x.body = gTx y.bn y.body := by rw [← h.b.1]; exact gTx_same h.b.2 hb.1
 unfold qTx headTx tailTx disTx starTx grpTx ordTx limTx offTx
 rw [e1, e2, e3, e4, h.ask, h.dis, h.lim, h.off, h.s.1, h.g.1, h.o.1]
theorem outs_same {x y : QY} (h : x.same y) {k : Nat} (hk : k ≤ x.sn) : outs x k = outs y k := by
 induction k with
 | zero => rfl
 | succ k ih =>
  show outs x k ++ [(x.sel k).v.b] = outs y k ++ [(y.sel k).v.b]
  rw [ih (by omega), (h.s.2 k (by omega)).2.2]
theorem inG_imp {x y : QY} (h : x.same y) {k : Nat} (hk : k ≤ x.gn) {b : List Int} (hg : inG x k b) : inG y k b := by
 obtain ⟨j, hj, e⟩ := hg
 have h1 : (x.grp j).b = (y.grp j).b := h.g.2 j (by omega)
 exact ⟨j, hj, by rw [← h1]; exact e⟩
theorem SelP.imp {body : List (List Int)} {s t : SE} (h : s.same t) (hs : SelP body s) : SelP body t := by
 unfold SelP at hs ⊢
 rwa [← h.1, ← h.2.1, ← h.2.2]
theorem bodyOk_imp {x y : QY} (h : x.same y) (hb : bodyOk x) : bodyOk y := by
 have hn := h.b.1
 refine ⟨fun i hi => uOk_imp (h.b.2 i (by omega)) (hb.1 i (by omega)), ?_⟩
 rw [← hn, ← sumN_congr (fun i hi => usz_same (h.b.2 i hi))]
 exact hb.2
theorem qOk_imp {x y : QY} (h : x.same y) (hq : qOk x) : qOk y := by
 have eV : gV y.bn y.body [] = gV x.bn x.body [] := by rw [← h.b.1]; exact (gV_same h.b.2 []).symm
 have hs := h.s.1
 have hg := h.g.1
 have ho := h.o.1
 have hb := h.b.1
 refine ⟨bodyOk_imp h hq.b, ?_, by rw [eV]; exact hq.v, by rw [← hs, ← hg, ← ho, ← h.lim, ← h.off]; exact hq.n, fun ha => ?_, fun ha => ?_⟩
 · rw [← hb]
   exact gBd_imp h.b.2 hq.d
 · rw [← hs, ← hg, ← ho, ← h.lim, ← h.off, ← h.dis]
   exact hq.a (by rw [h.ask]; exact ha)
 have k := hq.s (by rw [h.ask]; exact ha)
 rw [eV]
 have hg' : ∀ i, i < x.gn → (x.grp i).b = (y.grp i).b := fun i hi => h.g.2 i hi
 refine ⟨fun i hi => ?_, fun i hi => ?_, fun hh => ?_, fun i hi => ?_⟩
 · have k1 := k.s i (by omega)
   have e : sV x i = sV y i := (h.s.2 i (by omega)).2.2
   rw [← e, ← outs_same h (show i ≤ x.sn by omega)]
   exact ⟨k1.1, k1.2.imp (h.s.2 i (by omega))⟩
 · have k1 := k.g i (by omega)
   rw [← hg' i (by omega)]
   exact ⟨k1.1, fun hh => k1.2 (inG_imp h.symm (by omega) hh)⟩
 · have k1 := k.p (by
    rcases hh with hh | ⟨i, hi, hf⟩
    · exact .inl (by omega)
    exact .inr ⟨i, by omega, by rw [(h.s.2 i (by omega)).1]; exact hf⟩)
   refine ⟨by omega, fun i hi hf => ?_⟩
   have e : sV x i = sV y i := (h.s.2 i (by omega)).2.2
   rw [← e, ← hg]
   exact inG_imp h nR (k1.2 i (by omega) (by rw [(h.s.2 i (by omega)).1]; exact hf))
 have k1 := k.o i (by omega)
 have e := (h.o.2 i (by omega)).1
 rw [← e, ← hs, ← outs_same h (Nat.le_refl x.sn)]
 exact k1
theorem QOK_imp {x y : QY} (h : x.same y) (hq : QOK x) : QOK y := ⟨qOk_imp h hq.1, by rw [← qTx_same h hq.1.b]; exact hq.2⟩
theorem QOK_same {x y : QY} (h : x.same y) : QOK x ↔ QOK y := ⟨QOK_imp h, QOK_imp h.symm⟩
def VsT (x : QY) (R : List (List Int)) : Prop := (QOK x ∧ R = gV x.bn x.body []) ∨ (¬ QOK x ∧ R = [])
theorem vsT_some (x : QY) : ∃ R, VsT x R := by
 by_cases h : QOK x
 · exact ⟨_, .inl ⟨h, rfl⟩⟩
 exact ⟨_, .inr ⟨h, rfl⟩⟩
theorem VsT.len {x : QY} {R : List (List Int)} (h : VsT x R) : R.length ≤ 8 ∧ ∀ r ∈ R, 1 ≤ r.length ∧ r.length ≤ 12 := by
 rcases h with ⟨h, rfl⟩ | ⟨_, rfl⟩
 · refine ⟨h.1.v, fun r hr => ?_⟩
   have hn := gV_name h.1.b.1 r hr
   simp only [nameOk, Bool.and_eq_true, decide_eq_true_eq] at hn
   exact ⟨hn.1.1.1, hn.1.1.2⟩
 exact ⟨nZ, fun r hr => by cases hr⟩
theorem VsT.same {x y : QY} {R : List (List Int)} (h : VsT x R) (hs : x.same y) : VsT y R := by
 rcases h with ⟨h1, h2⟩ | ⟨h1, h2⟩
 · exact .inl ⟨(QOK_same hs).1 h1, by rw [h2, ← hs.b.1]; exact gV_same hs.b.2 []⟩
 exact .inr ⟨fun h => h1 ((QOK_same hs).2 h), h2⟩
theorem RV.mono {w : World} {B B' : Nat} {v : Value} {L : List SL} (h : RV w B v L) (hB : B' ≤ B) : RV w B' v L := by
 obtain ⟨⟨h1, h2⟩, hl⟩ := h
 refine ⟨⟨h1, h2.imp id ?_⟩, fun g hg => ⟨Nat.le_trans hB (hl g hg).1, (hl g hg).2⟩⟩
 rintro ⟨g, cap, cur, hv, hb, r⟩
 exact ⟨g, cap, cur, hv, Nat.le_trans hB hb, r⟩
theorem TOs.mono {w : World} {B B' : Nat} {v : Value} {L : List SL} (h : TOs w B v L) (hB : B' ≤ B) : TOs w B' v L := by
 refine ⟨fun x hx => ?_, h.d⟩
 obtain ⟨g, ha, hn, hb, hlt, ht⟩ := h.t x hx
 refine ⟨g, ha, hn, Nat.le_trans hB hb, hlt, ht.1, ht.2.imp id ?_⟩
 rintro ⟨g', e, h1, r⟩
 exact ⟨g', e, Nat.le_trans hB h1, r⟩
theorem OwnVs.mono {w w1 w' : World} {R : List (List Int)} {e : Ending} (h : OwnVs w1 R e w') (hb : Bl w w1) : OwnVs w R e w' := by
 obtain ⟨v, L, he, hR, hT, hm, hb'⟩ := h
 exact ⟨v, L, he, hR.mono hb.size, hT.mono hb.size, hm, bl_trans hb hb'⟩
theorem vl_lens {w0 w : World} {B : Nat} {v : Value} {L : List SL} {R : List (List Int)} (h : VL w0 w B v L) (hm : L.map SL.b = R) (hR : R.length ≤ 8 ∧ ∀ r ∈ R, 1 ≤ r.length ∧ r.length ≤ 12) : L.length ≤ 8 ∧ ∀ x ∈ L, 1 ≤ x.len ∧ x.len ≤ 12 := by
 subst hm
 refine ⟨by simpa using hR.1, fun x hx => ?_⟩
 have h1 := hR.2 x.b (List.mem_map.2 ⟨x, hx, rfl⟩)
 rw [(h.txt x hx).1.1] at h1
 exact h1
theorem specVars_any (x : QY) (w : World) (hx : x.lies 0 w) (hcp : ∀ i, i < x.bn → (x.body i).caps) (hbc : x.bn ≤ x.bc) (hgc : x.gn ≤ x.gc) (R : List (List Int)) (hT : VsT x R) : Calls Tryz.prog 7 #[.agg x.ar] w (OwnVs w R) := by
 try unfold QY.ar
 have HOK : Hd (∀ W, Bl w W → Cl 15 #[.agg x.ar] W (Tells (QOK x) W)) := fun W hb => specQueryOk_any x W (hx.below hb) hcp hbc hgc
 have HBV : Hd (bodyOk x → ∀ W, Bl w W → Cl 27 #[.slice none 0 0, .slice x.ba x.bn x.bc] W (AddAns w w.heap.size (.slice none 0 0) (gV x.bn x.body []) W)) := fun hb0 W hb => by
  have hu := ucs_le hb0.1
  have hu2 := hb0.2
  exact bodyVars_of x.ba x.bc x.bn x.body (.slice none 0 0) [] w.heap.size w W hx.b.2.2 hx.b.1 hx.b.2.1 (VL.nil _ _ _) hb (by simp only [List.length_nil]; omega) hb.size nR fun i hi => bodyVars_any (x.body i) w w.heap.size (hx.b.2.1 i hi) nR
 have HTT := iH hT
 have HLO : Hd (∀ (v : Value) (L : List SL) (W : World), VL w W w.heap.size v L → Bl w W → L.map SL.b = R → Cl 26 #[v] W (OwnVs W R)) := fun v L W hV hb hm => by
  have h := vl_lens hV hm HTT.o.len
  rw [← hm]
  exact l4own_any v L w.heap.size w W hV hb (by omega) (fun y hy => by have := (h.2 y hy).2; omega)
 have HX0 : Hd (Box (w.alloc (.cells x.ar 34)) w.heap.size x.cl) := Box.new w x.ar 34 (0, 0)
 have HB0 : Hd (Bl w (w.alloc (.cells x.ar 34))) := bl_a _
 obtain ⟨P, hP⟩ : ∃ P : Prop, P = QOK x := ⟨_, rfl⟩
 rw [← hP] at HOK
 have HP : Hd (P ↔ QOK x) := (show (P ↔ _) by rw [hP])
 clear hP hx hT hcp hbc hgc
 go_in
 go_upto_region 1 with fail
 generalize (w.alloc (.cells x.ar 34)) = W1 at *
 have ld := HX0.o.range 0 x.cl rfl
 go_wp2_with (with_reducible refine wpq_at ?_; refine ldr rfl rfl rfl Tryz.underlying34 ld rfl ?_; try simp only [Act.put, sA, zA, cA])
 clear ld
 refine (HOK.o _ HB0.o).mono ?_
 rintro e w1 ⟨q1, rfl, hq1, hb1⟩
 have HX1 := iH (HX0.o.below hb1)
 have HB1 := iH (bl_trans HB0.o hb1)
 clear hb1 HX0 HB0
 cases q1
 · have HNO : Hd (R = []) := by
    rcases HTT.o with ⟨h, _⟩ | ⟨_, h⟩
    · exact absurd (hq1.2 (HP.o.2 h)) (by simp)
    exact h
   clear hq1
   go_wp2
   go_ret
   rw [HNO.o]
   exact ⟨_, [], rfl, RV.nil _ _, TOs.nil _ _ _, rfl, HB1.o⟩
 have HYE : Hd (R = gV x.bn x.body []) := by
  rcases HTT.o with ⟨_, h⟩ | ⟨h, _⟩
  · exact h
  exact absurd (HP.o.1 (hq1.1 rfl)) h
 have HQ : Hd (QOK x) := HP.o.1 (hq1.1 rfl)
 have y3 := HX1.o.2 3 _ rfl
 clear hq1
 go_wp2_with fail
 refine (HBV.o HQ.o.1.b _ HB1.o).mono ?_
 rintro e w5 ⟨vb, Lb, rfl, hV5, hR5, hK5⟩
 have HB5 := iH (HB1.o.trans (hK5.low (fun g hg => (by cases hg)) HB1.o.size))
 have hO := HLO.o vb Lb w5 hV5 HB5.o (hR5.trans HYE.o.symm)
 clear hV5 hR5 hK5 y3
 go_wp2_with fail
 refine hO.mono ?_
 rintro e w6 ⟨v6, L6, rfl, hR6, hT6, hm6, hb6⟩
 have HA := iH (OwnVs.mono ⟨v6, L6, rfl, hR6, hT6, hm6, hb6⟩ HB5.o)
 clear hR6 hT6 hm6 hb6 hO
 go_wp2
 go_ret
 exact HA.o
theorem implVars_any (x : QY) (w : World) (hx : x.lies 0 w) (ht : Tab w) (R : List (List Int)) (hT : VsT x R) : Calls Tryz.prog 9 #[.agg x.ar] w (OwnVs w R) := by
 try unfold QY.ar
 have HOK : Hd (∀ W, Bl w W → Cl 16 #[.agg x.ar] W (Tells (QOK x) W)) := fun W hb => implQueryOk_any x W (hx.below hb) (ht.below hb)
 have HVO : Hd (bodyOk x → ∀ W, Bl w W → Cl 32 #[.slice x.ba x.bn x.bc] W (MadeV w W.heap.size (gV x.bn x.body []) W)) := fun hb0 W hb => by
  have hu := ucs_le hb0.1
  have hu2 := hb0.2
  exact varsOf_any x.ba x.bc x.bn x.body w W hx.b.2.2 hx.b.1 hx.b.2.1 hb (by omega)
 have HTT := iH hT
 have HX0 : Hd (Box (w.alloc (.cells x.ar 34)) w.heap.size x.cl) := Box.new w x.ar 34 (0, 0)
 have HB0 : Hd (Bl w (w.alloc (.cells x.ar 34))) := bl_a _
 obtain ⟨P, hP⟩ : ∃ P : Prop, P = QOK x := ⟨_, rfl⟩
 rw [← hP] at HOK
 have HP : Hd (P ↔ QOK x) := (show (P ↔ _) by rw [hP])
 clear hP hx hT ht
 go_in
 go_upto_region 1 with fail
 generalize (w.alloc (.cells x.ar 34)) = W1 at *
 have ld := HX0.o.range 0 x.cl rfl
 go_wp2_with (with_reducible refine wpq_at ?_; refine ldr rfl rfl rfl Tryz.underlying34 ld rfl ?_; try simp only [Act.put, sA, zA, cA])
 clear ld
 refine (HOK.o _ HB0.o).mono ?_
 rintro e w1 ⟨q1, rfl, hq1, hb1⟩
 have HX1 := iH (HX0.o.below hb1)
 have HB1 := iH (bl_trans HB0.o hb1)
 clear hb1 HX0 HB0
 cases q1
 · have HNO : Hd (R = []) := by
    rcases HTT.o with ⟨h, _⟩ | ⟨_, h⟩
    · exact absurd (hq1.2 (HP.o.2 h)) (by simp)
    exact h
   clear hq1
   go_wp2
   go_ret
   rw [HNO.o]
   exact ⟨_, [], rfl, RV.nil _ _, TOs.nil _ _ _, rfl, HB1.o⟩
 have HYE : Hd (R = gV x.bn x.body []) := by
  rcases HTT.o with ⟨_, h⟩ | ⟨h, _⟩
  · exact h
  exact absurd (HP.o.1 (hq1.1 rfl)) h
 have HQ : Hd (QOK x) := HP.o.1 (hq1.1 rfl)
 have y3 := HX1.o.2 3 _ rfl
 clear hq1
 go_wp2_with fail
 refine (HVO.o HQ.o.1.b _ HB1.o).mono ?_
 rintro e w5 ⟨vb, L, rfl, hV5, hR5, hb5⟩
 have HB5 := iH (bl_trans HB1.o hb5)
 have HLB0 := iH (hR5.trans HYE.o.symm)
 have hls := vl_lens hV5 (hR5.trans HYE.o.symm) HTT.o.len
 have HLS := iH hls.2
 have HT : Hd (∀ y ∈ L, BsF 0 w5 y) := fun y hy => BsF.upper (hV5.txt y hy) (uB HB5.o)
 obtain ⟨va, vc, rfl, hf⟩ := hV5.form
 obtain ⟨n, hnn⟩ : ∃ n, n = L.length := ⟨_, rfl⟩
 have HN := iH hnn
 have hn : n ≤ 8 := by rw [hnn]; exact hls.1
 have HC : Hd (n = 0 ∨ ∃ g, va = some ⟨g, 0, none⟩ ∧ g < w5.heap.size ∧ ∀ i y, L[i]? = some y → w5.cell? ⟨g, i, none⟩ = some (.slice y.a y.len y.cap)) := by
  rcases hf with h | ⟨g, e, _, h1, h2⟩
  · exact .inl (by rw [hnn, h]; rfl)
  exact .inr ⟨g, e, h1, h2⟩
 rw [← hnn]
 clear hV5 hR5 hb5 y3 hls hf hnn HX1
 go_wp2_with fail
 go_loopw [3, 13] (fun o i wr => ∃ (j : Nat) (v' : Value) (L' : List SL), j ≤ n ∧ o = v' ∧ i = .int .i64 j ∧ Hd (L'.length = j) ∧ Hd (RV wr w5.heap.size v' L') ∧ Hd (TOs wr w5.heap.size v' L') ∧ Hd (L'.map SL.b = (L.take j).map SL.b) ∧ Hd (Bl w5 wr))
  (fun _ i _ => n - (intOf i).toNat)
 case atStart => exact ⟨0, _, [], nZ, rfl, rfl, rfl, RV.nil _ _, TOs.nil _ _ _, rfl, Below.refl _ _⟩
 obtain ⟨j, v', L', hj, rfl, rfl, HLN, HRV, HTO, HLB, HB⟩ := hrel
 by_cases hlt : j < n
 · obtain ⟨g, rfl, hg2, hcc⟩ := HC.o.resolve_left (by omega)
   obtain ⟨y, hy⟩ : ∃ y, L[j]? = some y := ⟨_, List.getElem?_eq_getElem (by rw [← HN.o]; exact hlt)⟩
   have HXJ := iH hy
   have hmy := List.mem_of_getElem? hy
   have hyl := HLS.o y hmy
   have hcx : wr.cell? ⟨g, j, none⟩ = some (.slice y.a y.len y.cap) := (HB.o.cell (p := ⟨g, j, none⟩) hg2).trans (hcc j y hy)
   have HBX := iH (BsF.upper (HT.o y hmy) (uB HB.o))
   clear hy hmy hcc
   have hle : L'.length ≤ 1048576 := by have h := HLN.o; omega
   have hlz : (j : Int) < (n : Int) := by omega
   go_wp2_with fail
   refine (clone_any y wr HBX.o (by omega) (by omega)).mono ?_
   rintro e w4 ⟨g4, c4, rfl, hz4, HW4⟩
   have HT4 := iH hz4
   have HW4 := iH HW4
   have HRo := iH (fun o => (HRV.o.below HW4.o).below (bl_a o))
   have HON : Hd (∀ j u, ([SL.v ⟨some ⟨g4, 0, none⟩, y.len, c4, y.b⟩] : List Value)[j]? = some u → (w4.alloc (.cells #[.slice (some ⟨g4, 0, none⟩) y.len c4] 42)).cell? ((⟨w4.heap.size, 0, none⟩ : Addr).add j) = some u) := one_cell _ _
   have hB4 : w5.heap.size ≤ (w4.alloc (.cells #[.slice (some ⟨g4, 0, none⟩) y.len c4] 42)).heap.size := Nat.le_trans (Nat.le_trans HB.o.size HW4.o.size) (bl_a (w := w4) (.cells #[.slice (some ⟨g4, 0, none⟩) y.len c4] 42)).size
   clear hz4
   go_wp2_with (refine appR rfl (.tmp 17) (.tmp 20) rfl w5.heap.size _ L' rfl (HRo.o _) ⟨some ⟨g4, 0, none⟩, y.len, c4, y.b⟩ ⟨w4.heap.size, 0, none⟩ 1 rfl HON hle hB4 ?_; intro g9 c9 w9 HO9 HK9)
   go_roundw
   case rel =>
    have hz := HT4.o
    have hgg : wr.heap.size ≤ g4 ∧ g4 < w4.heap.size := by
     rcases hz.2 with ⟨e, _⟩ | ⟨g', e, h1, h2, _⟩
     · cases e
     cases e
     exact ⟨h1, h2⟩
    refine ⟨j + 1, _, L' ++ [⟨some ⟨g4, 0, none⟩, y.len, c4, y.b⟩], by omega, rfl, by go_num, ?_, HO9, ?_, ?_, ?_⟩
    · show (L' ++ _).length = j + 1
      rw [List.length_append, HLN.o]
      rfl
    · refine TOs.app (w := w4.alloc (.cells #[.slice (some ⟨g4, 0, none⟩) y.len c4] 42)) ((HTO.o.kept HW4.o nR).kept (bl_a _) nR) ?_ ?_ HK9.o
      · refine TO1.below (w := w4) ⟨g4, rfl, fun e => ?_, Nat.le_trans HB.o.size hgg.1, hgg.2, ?_⟩ (bl_a _) nR
        · have := (HRV.o.lo g4 e).2
          omega
        refine ⟨hz.1, hz.2.imp id ?_⟩
        rintro ⟨g', e, h1, h2⟩
        exact ⟨g', e, Nat.le_trans HB.o.size h1, h2⟩
      intro z hz2 e
      obtain ⟨gz, ez, _, _, hl2, _⟩ := HTO.o.t z hz2
      rw [ez] at e
      have : gz = g4 := by cases e; rfl
      omega
    · show (L' ++ _).map SL.b = _
      rw [List.map_append, HLB.o, List.take_add_one, HXJ.o, List.map_append]
      rfl
    exact ((bl_trans HB.o (HW4.o.trans (bl_a (w := w4) (.cells #[.slice (some ⟨g4, 0, none⟩) y.len c4] 42) |>.mono HW4.o.size))).trans (HK9.o.low (fun g' hg' => (HRV.o.lo g' hg').1) hB4))
   case measure => simp [intOf]; omega
 obtain rfl : j = n := by omega
 have hlz : ¬ (j : Int) < (j : Int) := by omega
 go_wp2
 go_ret
 have hL : L'.map SL.b = R := by rw [HLB.o, HN.o, List.take_length, HLB0.o]
 exact OwnVs.mono ⟨_, L', rfl, HRV.o, HTO.o, hL, HB.o⟩ HB5.o
def Marked (w : World) (a : Option Addr) (len : Nat) (k : Int) : Prop := len = 0 ∨ ∃ g, a = some ⟨g, 0, none⟩ ∧ g < w.heap.size ∧ ∀ i, i < len → w.cell? ⟨g, i, none⟩ = some (.int .u8 ((k + (i : Nat)) % 256))
theorem Marked.below {w w' : World} {a : Option Addr} {len : Nat} {k : Int} (h : Marked w a len k) (hb : Bl w w') : Marked w' a len k := by
 rcases h with h | ⟨g, ha, hl, hc⟩
 · exact .inl h
 exact .inr ⟨g, ha, Nat.lt_of_lt_of_le hl hb.size, fun i hi => (hb.cell (p := ⟨g, i, none⟩) hl).trans (hc i hi)⟩
theorem held_any (a : Option Addr) (len cap : Nat) (k : Int) (w : World) (h : Marked w a len k) (hk : 0 ≤ k) (hk2 : k ≤ 4194304) (hlen : len ≤ 1048576) :
 Calls Tryz.prog 21 #[.slice a len cap, .int .i64 k] w fun e w' => e = .returned (.int .i64 (k + len)) ∧ w' = w := by
 rcases h with rfl | ⟨g, rfl, hl, hc⟩
 · go_enter Tryz.func21, Tryz.ntmps21
   go_wp2
   refine wp_loop_rounds 1 ?_
   rw [rounds_succ]
   go_wp2
   go_ret
   exact ⟨by simp, rfl⟩
 go_enter Tryz.func21, Tryz.ntmps21
 go_wp2
 go_loop [1, 5] (fun q i => ∃ j : Nat, j ≤ len ∧ i = .int .i64 j ∧ q = .int .i64 (k + j)) (fun _ i => len - (intOf i).toNat)
 case atStart => exact ⟨0, nZ, rfl, by simp⟩
 obtain ⟨j, hj, rfl, rfl⟩ := hrel
 by_cases hlt : j < len
 · have hx := hc j hlt
   have hw : IntKind.u8.wrap (k + (j : Int)) = (k + (j : Int)) % 256 := by rw [IntKind.wrap_u8]
   clear hc
   go_wp2
   go_round
   case rel => exact ⟨j + 1, by omega, by go_num, by go_num⟩
   case measure => simp [intOf]; omega
 obtain rfl : j = len := by omega
 go_wp2
 go_ret
 exact ⟨rfl, rfl⟩
def posV (L : List SL) (i : Nat) : Nat := ((L.take i).map SL.len).sum
theorem posV_succ {L : List SL} {i : Nat} {x : SL} (h : L[i]? = some x) : posV L (i + 1) = posV L i + x.len := by
 unfold posV
 rw [List.take_add_one, h, List.map_append, List.sum_append]
 simp
theorem posV_le {L : List SL} (hl : ∀ x ∈ L, x.len ≤ 1000) : ∀ i, posV L i ≤ 1000 * i
 | 0 => by simp [posV]
 | i + 1 => by
  have ih := posV_le hl i
  rcases h : L[i]? with _ | x
  · have e : posV L (i + 1) = posV L i := by
     unfold posV
     rw [List.take_add_one, h]
     simp
    omega
  have h2 := hl x (List.mem_of_getElem? h)
  rw [posV_succ h]
  omega
def RowT (w : World) (v : Value) (R : List (List Int)) : Prop := ∃ a cap, ∃ x : Nat → SL, v = .slice a R.length cap ∧ KRow 0 w 1 a R.length (fun i => (x i).cells) ∧ ∀ i, i < R.length → BsF 0 w (x i) ∧ R[i]? = some (x i).b
theorem RowT.below {w w' : World} {v : Value} {R : List (List Int)} (h : RowT w v R) (hb : Bl w w') : RowT w' v R := by
 obtain ⟨a, cap, x, e, hK, hx⟩ := h
 exact ⟨a, cap, x, e, hK.upper (uB hb), fun i hi => ⟨(hx i hi).1.upper (uB hb), (hx i hi).2⟩⟩
theorem eqVs {v v' : Value} {R : List (List Int)} {w : World} (hR : R.length ≤ 1048576) (h : RowT w v R) (h' : RowT w v' R) : Calls Tryz.prog 10 #[v, v'] w (Yes w) := by
 obtain ⟨a, cap, x, rfl, hK, hx⟩ := h
 obtain ⟨a', cap', y, rfl, hK', hy⟩ := h'
 exact eqByteSS_of a a' cap cap' R.length x y w hR hK hK' fun i hi W hW => eqByteS_same (x i) (y i) W ((hx i hi).1.upper (uB hW)) ((hy i hi).1.upper (uB hW)) (Option.some.inj ((hx i hi).2.symm.trans (hy i hi).2))
theorem rowT_of {w : World} {B : Nat} {v : Value} {L : List SL} (h : RV w B v L) (ht : TOs w B v L) : RowT w v (L.map SL.b) := by
 obtain ⟨a, cap, e, hf⟩ := h.form
 refine ⟨a, cap, fun i => L[i]?.getD ⟨none, 0, 0, []⟩, by rw [e, List.length_map], ?_, fun i hi => ?_⟩
 · rw [List.length_map]
   rcases hf with rfl | ⟨g, rfl, _, hlt, hc⟩
   · exact .inl rfl
   refine .inr ⟨g, 0, rfl, nZ, hlt, fun i hi c u hu => ?_⟩
   obtain ⟨x, hx⟩ : ∃ x, L[i]? = some x := ⟨_, List.getElem?_eq_getElem hi⟩
   have h1 := hc i x hx
   simp only [hx, Option.getD_some, SL.cells] at hu
   have hc0 : c = 0 := by
    have h := (List.getElem?_eq_some_iff.1 hu).1
    simp only [List.length_cons, List.length_nil] at h
    omega
   subst hc0
   have hu2 : Value.slice x.a x.len x.cap = u := by simpa using hu
   rw [← hu2, ← h1]
   simp
 rw [List.length_map] at hi
 obtain ⟨x, hx⟩ : ∃ x, L[i]? = some x := ⟨_, List.getElem?_eq_getElem hi⟩
 obtain ⟨_, _, _, _, _, hz⟩ := ht.t x (List.mem_of_getElem? hx)
 simp only [hx, Option.getD_some]
 exact ⟨⟨hz.1, .inr fun _ _ => nZ⟩, by rw [List.getElem?_map, hx]; rfl⟩
theorem TO1.keep {w w' : World} {B : Nat} {v : Value} {x : SL} (h : TO1 w B v x) (hs : w.heap.size ≤ w'.heap.size) (hb : ∀ g, x.a = some ⟨g, 0, none⟩ → B ≤ g → w'.heap[g]? = w.heap[g]?) : TO1 w' B v x := by
 obtain ⟨g, ha, hn, hB, hlt, ht⟩ := h
 exact ⟨g, ha, hn, hB, Nat.lt_of_lt_of_le hlt hs, ht.keep ha hs (hb g ha hB)⟩
theorem Marked.butV {w w' : World} {a : Option Addr} {len c : Nat} {k : Int} (h : Marked w a len k) (hb : But c w w') (hc : a ≠ some ⟨c, 0, none⟩) : Marked w' a len k := by
 rcases h with h | ⟨g, ha, hl, hx⟩
 · exact .inl h
 refine .inr ⟨g, ha, by rw [hb.size]; exact hl, fun i hi => ?_⟩
 rw [← hx i hi]
 exact World.cell?_of_block (w := w) (a := ⟨g, i, none⟩) (hb.block g (fun e => hc (by rw [ha, e])))
structure MdV (w : World) (v : Value) (L : List SL) (k : Int) : Prop where
 row : ∃ a cap, v = .slice a L.length cap ∧ (L = [] ∨ ∃ g, a = some ⟨g, 0, none⟩ ∧ g < w.heap.size ∧ ∀ i x, L[i]? = some x → w.cell? ⟨g, i, none⟩ = some (.slice x.a x.len x.cap))
 md : ∀ i x, L[i]? = some x → Marked w x.a x.len (k + (posV L i : Nat))
theorem MdV.below {w w' : World} {v : Value} {L : List SL} {k : Int} (h : MdV w v L k) (hb : Bl w w') : MdV w' v L k := by
 obtain ⟨a, cap, e, hf⟩ := h.row
 refine ⟨⟨a, cap, e, hf.imp id ?_⟩, fun i x hx => (h.md i x hx).below hb⟩
 rintro ⟨g, ha, hl, hc⟩
 exact ⟨g, ha, Nat.lt_of_lt_of_le hl hb.size, fun i x hx => (hb.cell (p := ⟨g, i, none⟩) hl).trans (hc i x hx)⟩
theorem TOs.ne {w : World} {B : Nat} {v : Value} {L : List SL} (h : TOs w B v L) {i j : Nat} {x y : SL} (hx : L[i]? = some x) (hy : L[j]? = some y) (hij : i < j) : x.a ≠ y.a := by
 obtain ⟨hi, e1⟩ := List.getElem?_eq_some_iff.1 hx
 obtain ⟨hj, e2⟩ := List.getElem?_eq_some_iff.1 hy
 have h2 := List.pairwise_iff_getElem.1 h.d i j hi hj hij
 rw [e1, e2] at h2
 exact h2
theorem mark_vs (v : Value) (L : List SL) (B : Nat) (k : Int) (w : World) (h : RV w B v L) (ht : TOs w B v L) (hn : L.length ≤ 1000) (hl : ∀ x ∈ L, x.len ≤ 1000) (hk : 0 ≤ k) (hk2 : k ≤ 1000) :
 Calls Tryz.prog 13 #[v, .int .i64 k] w fun e w' => e = .returned (.int .i64 (k + (posV L L.length : Nat))) ∧ MdV w' v L k ∧ Below B w w' ∧ w'.heap.size = w.heap.size := by
 obtain ⟨a, cap, rfl, hf⟩ := h.form
 obtain ⟨n, hnn⟩ : ∃ n, n = L.length := ⟨_, rfl⟩
 have HN := iH hnn
 have HL := iH hl
 have HP := iH (posV_le hl)
 have HD : Hd (∀ (i j : Nat) (x y : SL), L[i]? = some x → L[j]? = some y → i < j → x.a ≠ y.a) := fun i j x y h1 h2 h3 => ht.ne h1 h2 h3
 by_cases h0 : n = 0
 · have e0 : L = [] := List.eq_nil_of_length_eq_zero (by omega)
   subst e0
   clear hf h ht HL HP HD hl hnn HN
   go_in
   go_wp2
   refine wp_loop_rounds 1 ?_
   rw [rounds_succ]
   go_wp2
   go_ret
   exact ⟨by simp [posV], ⟨⟨a, cap, rfl, .inl rfl⟩, fun i x hx => by simp at hx⟩, Below.refl _ _, rfl⟩
 rcases hf with hf | ⟨g, rfl, hg1, hg2, hc⟩
 · exact absurd (by rw [hnn, hf]; rfl) h0
 have HG : Hd (∀ x ∈ L, x.a ≠ some ⟨g, 0, none⟩) := fun x hx e => by
  obtain ⟨gx, ha, hne, _⟩ := ht.t x hx
  rw [ha] at e
  have eg : gx = g := by cases e; rfl
  exact hne (by rw [eg]; rfl)
 have HC := iH hc
 have HT : Hd (∀ i x, L[i]? = some x → 0 ≤ i → TO1 w B (.slice (some ⟨g, 0, none⟩) L.length cap) x) := fun i x hx _ => ht.t x (List.mem_of_getElem? hx)
 rw [← hnn] at hn ⊢
 clear h ht hl hc hnn
 go_in
 go_wp2_with fail
 go_loopw [1, 5] (fun a b wr => ∃ (j : Nat) (m : Int), j ≤ n ∧ b = .int .i64 j ∧ a = .int .i64 m ∧ 0 ≤ m ∧ m ≤ 1001000 ∧ Hd (m = k + (posV L j : Nat)) ∧ Hd (∀ i x, L[i]? = some x → i < j → Marked wr x.a x.len (k + (posV L i : Nat))) ∧ Hd (∀ i x, L[i]? = some x → j ≤ i → TO1 wr B (.slice (some ⟨g, 0, none⟩) L.length cap) x) ∧ Hd (∀ i x, L[i]? = some x → wr.cell? ⟨g, i, none⟩ = some (.slice x.a x.len x.cap)) ∧ Hd (Below B w wr) ∧ Hd (wr.heap.size = w.heap.size))
  (fun _ b _ => n - (intOf b).toNat)
 case atStart => exact ⟨0, k, nZ, rfl, rfl, hk, by omega, (show _ = _ by simp [posV]), fun i x _ hi => absurd hi nN, HT.o, HC.o, Below.refl _ _, rfl⟩
 obtain ⟨j, m, hj, rfl, rfl, hm0, hm1, HM, HK, HO, HR, HB, HS⟩ := hrel
 by_cases hlt : j < n
 · obtain ⟨x, hx⟩ : ∃ x, L[j]? = some x := ⟨_, List.getElem?_eq_getElem (by rw [← HN.o]; exact hlt)⟩
   have HXJ := iH hx
   have hxl := HL.o x (List.mem_of_getElem? hx)
   obtain ⟨gx, ha, hne, hBx, hgx, hz⟩ := HO.o j x hx nR
   have s0 : wr.cell? ⟨g, j, none⟩ = some (.slice (some ⟨gx, 0, none⟩) x.len x.cap) := by rw [← ha]; exact HR.o j x hx
   have HZ := iH hz
   have HA := iH ha
   have HCX : Hd ((∀ i, i < x.len → ∃ v, wr.cell? ⟨gx, i, none⟩ = some (.int .u8 v)) ∧ ∀ i, i < x.len → wr.frozen? ⟨gx, i, none⟩ = false) := by
    obtain ⟨h1, h2⟩ := hz
    rw [ha] at h1 h2
    refine ⟨fun i hi => ?_, fun i hi => ?_⟩
    · rcases h1.2.2.2 with h | ⟨b, off, e, _, hh⟩
      · omega
      cases e
      exact ⟨_, by have h := hh i hi; rwa [Nat.zero_add] at h⟩
    rcases h2 with ⟨e, _⟩ | ⟨g', e, _, _, hlc, hh⟩
    · cases e
    cases e
    exact (hh i (by omega)).2
   have HGX : Hd (gx ≠ g ∧ gx < wr.heap.size) := ⟨fun e => HG.o x (List.mem_of_getElem? hx) (by rw [ha, e]), hgx⟩
   have hml : m + x.len ≤ 1001000 := by
    have h1 := posV_succ hx
    have h2 := HP.o (j + 1)
    have h3 := HM.o
    omega
   clear hx ha hne hz hgx
   go_wp2_with fail
   refine (markByteS_own gx x.len x.cap m wr hm0 (by omega) (by omega) HCX.o.1 HCX.o.2).mono ?_
   rintro e w1 ⟨rfl, hb1, hc1, _⟩
   have HB1 := iH hb1
   have HC1 := iH hc1
   clear hb1 hc1 s0
   go_wp2
   go_roundw
   case rel =>
    refine ⟨j + 1, m + x.len, by omega, by go_num, by go_num, by omega, by omega, ?_, ?_, ?_, ?_, HB.o.trans (HB1.o.below hBx), HB1.o.size.trans HS.o⟩
    · show _ = _
      rw [posV_succ HXJ.o, HM.o]
      omega
    · intro i y hy hi
      by_cases e : i = j
      · subst e
        have e2 : y = x := Option.some.inj (hy.symm.trans HXJ.o)
        subst e2
        rw [← HM.o]
        exact .inr ⟨gx, HA.o, by rw [HB1.o.size]; exact HGX.o.2, HC1.o⟩
      exact (HK.o i y hy (by omega)).butV HB1.o (by rw [← HA.o]; exact HD.o i j y x hy HXJ.o (by omega))
    · intro i y hy hi
      refine (HO.o i y hy (by omega)).keep (Nat.le_of_eq HB1.o.size.symm) fun g' e _ => HB1.o.block g' fun e2 => ?_
      exact HD.o j i x y HXJ.o hy (by omega) (by rw [HA.o, e, e2])
    intro i y hy
    rw [← HR.o i y hy]
    exact World.cell?_of_block (w := wr) (a := ⟨g, i, none⟩) (HB1.o.block g (fun e => HGX.o.1 e.symm))
   case measure => simp [intOf]; omega
 obtain rfl : j = n := by omega
 go_wp2
 go_ret
 refine ⟨congrArg (fun z => Ending.returned (Value.int .i64 z)) HM.o, ⟨⟨_, cap, by rw [HN.o], .inr ⟨g, rfl, by rw [HS.o]; exact hg2, HR.o⟩⟩, fun i x hx => HK.o i x hx ?_⟩, HB.o, HS.o⟩
 have h := (List.getElem?_eq_some_iff.1 hx).1
 rw [HN.o]
 exact h
theorem held_vs (v : Value) (L : List SL) (k : Int) (w : World) (h : MdV w v L k) (hn : L.length ≤ 1000) (hl : ∀ x ∈ L, x.len ≤ 1000) (hk : 0 ≤ k) (hk2 : k ≤ 1000) :
 Calls Tryz.prog 14 #[v, .int .i64 k] w fun e w' => e = .returned (.int .i64 (k + (posV L L.length : Nat))) ∧ w' = w := by
 obtain ⟨a, cap, rfl, hf⟩ := h.row
 obtain ⟨n, hnn⟩ : ∃ n, n = L.length := ⟨_, rfl⟩
 have HN := iH hnn
 have HL := iH hl
 have HP := iH (posV_le hl)
 have HMD := iH h.md
 by_cases h0 : n = 0
 · have e0 : L = [] := List.eq_nil_of_length_eq_zero (by omega)
   subst e0
   clear hf h HL HP HMD hl hnn HN
   go_in
   go_wp2
   refine wp_loop_rounds 1 ?_
   rw [rounds_succ]
   go_wp2
   go_ret
   exact ⟨by simp [posV], rfl⟩
 rcases hf with hf | ⟨g, rfl, hg2, hc⟩
 · exact absurd (by rw [hnn, hf]; rfl) h0
 have HC := iH hc
 rw [← hnn] at hn ⊢
 clear h hl hc hnn
 go_in
 go_wp2_with fail
 go_loopw [1, 5] (fun a b wr => ∃ (j : Nat) (m : Int), j ≤ n ∧ b = .int .i64 j ∧ a = .int .i64 m ∧ 0 ≤ m ∧ m ≤ 1001000 ∧ Hd (m = k + (posV L j : Nat)) ∧ Hd (wr = w))
  (fun _ b _ => n - (intOf b).toNat)
 case atStart => exact ⟨0, k, nZ, rfl, rfl, hk, by omega, (show _ = _ by simp [posV]), rfl⟩
 obtain ⟨j, m, hj, rfl, rfl, hm0, hm1, HM, HW⟩ := hrel
 by_cases hlt : j < n
 · obtain ⟨x, hx⟩ : ∃ x, L[j]? = some x := ⟨_, List.getElem?_eq_getElem (by rw [← HN.o]; exact hlt)⟩
   have HXJ := iH hx
   have hxl := HL.o x (List.mem_of_getElem? hx)
   have s0 : wr.cell? ⟨g, j, none⟩ = _ := HW.o ▸ HC.o j x hx
   have HX : Hd (Marked wr x.a x.len (k + (posV L j : Nat))) := HW.o ▸ HMD.o j x hx
   have hml : m + x.len ≤ 1001000 := by
    have h1 := posV_succ hx
    have h2 := HP.o (j + 1)
    have h3 := HM.o
    omega
   clear hx
   go_wp2_with fail
   refine (held_any x.a x.len x.cap m _ (by rw [HM.o]; exact HX.o) hm0 (by omega) (by omega)).mono ?_
   rintro e w1 ⟨rfl, rfl⟩
   clear s0
   go_wp2
   go_roundw
   case rel =>
    refine ⟨j + 1, m + x.len, by omega, by go_num, by go_num, by omega, by omega, ?_, HW⟩
    show _ = _
    rw [posV_succ HXJ.o, HM.o]
    omega
   case measure => simp [intOf]; omega
 obtain rfl : j = n := by omega
 go_wp2
 go_ret
 exact ⟨congrArg (fun z => Ending.returned (Value.int .i64 z)) HM.o, HW.o⟩
end Go.Proofs.YthljoojcpbignaaGreatDoor
