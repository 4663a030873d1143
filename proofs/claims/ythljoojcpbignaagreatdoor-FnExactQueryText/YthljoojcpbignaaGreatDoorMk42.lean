/- PROVED: at every query the program's QueryText answers as its model, writes into no argument, keeps nothing of one, and its answer owns its memory (FnExactQueryTextCardSaid; no condition; the library's three tables lie as the program's text lays them, which the card ties). -/
import Derived.Test.YthljoojcpbignaaGreatDoorMk41
import Derived.Test.YthljoojcpbignaaGreatDoorMk24
import Derived.Test.YthljoojcpbignaaGreatDoorCards
import Derived.Test.YthljoojcpbignaaGreatDoorTie
import Derived.LaidMore
import Derived.Stop.Joined
import Derived.Lib.LaidTab
import Derived.Stop.LaidErr
import Derived.SevenTiedAt
namespace Go.Proofs.YthljoojcpbignaaGreatDoor
open Go.RowKit Go.Deep
set_option maxHeartbeats 40000000
set_option maxRecDepth 100000
theorem tds_like {l l' : List TB} (h : l.map TB.td = l'.map TB.td) : l.length = l'.length ∧ ((∀ x ∈ l, x.td.ok = true) → ∀ x ∈ l', x.td.ok = true) ∧ ∀ i, i < l.length → (tbG l i).td = (tbG l' i).td := by
 have hl : l.length = l'.length := by simpa using congrArg List.length h
 have hi : ∀ i, i < l.length → (tbG l i).td = (tbG l' i).td := fun i hi => by
  have h1 := congrArg (fun m : List TD => m[i]?) h
  simp only [List.getElem?_map] at h1
  rw [(tbG_at hi).1, (tbG_at (show i < l'.length by omega)).1]
  rw [List.getElem?_eq_getElem hi, List.getElem?_eq_getElem (show i < l'.length by omega)] at h1
  simpa using h1
 refine ⟨hl, fun hk x hx => ?_, hi⟩
 obtain ⟨i, hi', rfl⟩ := List.getElem_of_mem hx
 have h1 := hi i (by omega)
 rw [(tbG_at (show i < l.length by omega)).1, (tbG_at hi').1] at h1
 rw [← h1]
 exact hk _ (List.getElem_mem _)
theorem IB.same.sym {x y : IB} (h : x.same y) : y.same x := ⟨h.1.symm, h.2.symm⟩
theorem PB.same.sym {x y : PB} (h : x.same y) : y.same x := ⟨h.1.sym, h.2.1.sym, h.2.2.sym⟩
theorem ET.same.sym {e : ET} : ∀ {e' : ET}, e.same e' → e'.same e := by
 induction e with
 | nil => exact fun h => False.elim h
 | mk d kid ih =>
  intro e' h
  cases e' with
  | nil => exact False.elim h
  | mk d' kid' =>
  obtain ⟨h0, h1, h2, h3, h4, h5⟩ := h
  exact ⟨h0.symm, h1.symm, h2.symm, h3.symm, h4.symm, fun i hi => ih i (h5 i (by omega))⟩
theorem IB.same.tra {x y z : IB} (h : x.same y) (k : y.same z) : x.same z := ⟨h.1.trans k.1, h.2.trans k.2⟩
theorem PB.same.tra {x y z : PB} (h : x.same y) (k : y.same z) : x.same z := ⟨h.1.tra k.1, h.2.1.tra k.2.1, h.2.2.tra k.2.2⟩
theorem ET.same.tra {e : ET} : ∀ {e' e'' : ET}, e.same e' → e'.same e'' → e.same e'' := by
 induction e with
 | nil => exact fun h => False.elim h
 | mk d kid ih =>
  intro e' e'' h k
  cases e' with
  | nil => exact False.elim h
  | mk d' kid' =>
  cases e'' with
  | nil => exact False.elim k
  | mk d'' kid'' =>
  obtain ⟨h0, h1, h2, h3, h4, h5⟩ := h
  obtain ⟨k0, k1, k2, k3, k4, k5⟩ := k
  exact ⟨h0.trans k0, h1.trans k1, h2.trans k2, h3.trans k3, h4.trans k4, fun i hi => ih i (h5 i hi) (k5 i (by omega))⟩
theorem UT.same.sym {e : UT} : ∀ {e' : UT}, e.same e' → e'.same e := by
 induction e with
 | nil => exact fun h => False.elim h
 | mk d ka kb ia ib =>
  intro e' h
  cases e' with
  | nil => exact False.elim h
  | mk d' ka' kb' =>
  obtain ⟨h0, h1, h2, h3, h4, ⟨h5, h6⟩, ⟨h7, h8⟩⟩ := h
  exact ⟨h0.symm, h1.sym, h2.sym, h3.symm, h4.symm, ⟨h5.symm, fun i hi => ia i (h6 i (by omega))⟩, ⟨h7.symm, fun i hi => ib i (h8 i (by omega))⟩⟩
theorem UT.same.tra {e : UT} : ∀ {e' e'' : UT}, e.same e' → e'.same e'' → e.same e'' := by
 induction e with
 | nil => exact fun h => False.elim h
 | mk d ka kb ia ib =>
  intro e' e'' h k
  cases e' with
  | nil => exact False.elim h
  | mk d' ka' kb' =>
  cases e'' with
  | nil => exact False.elim k
  | mk d'' ka'' kb'' =>
  obtain ⟨h0, h1, h2, h3, h4, ⟨h5, h6⟩, ⟨h7, h8⟩⟩ := h
  obtain ⟨k0, k1, k2, k3, k4, ⟨k5, k6⟩, ⟨k7, k8⟩⟩ := k
  exact ⟨h0.trans k0, h1.tra k1, h2.tra k2, h3.trans k3, h4.trans k4, ⟨h5.trans k5, fun i hi => ia i (h6 i hi) (k6 i (by omega))⟩, ⟨h7.trans k7, fun i hi => ib i (h8 i hi) (k8 i (by omega))⟩⟩
theorem QY.same.symm {x y : QY} (h : x.same y) : y.same x :=
 ⟨h.ask.symm, h.dis.symm, ⟨h.s.1.symm, fun i hi => have k := h.s.2 i (by rw [h.s.1]; exact hi); ⟨k.1.symm, k.2.1.symm, k.2.2.symm⟩⟩, ⟨h.b.1.symm, fun i hi => (h.b.2 i (by rw [h.b.1]; exact hi)).sym⟩, ⟨h.g.1.symm, fun i hi => Eq.symm (h.g.2 i (by rw [h.g.1]; exact hi))⟩, ⟨h.o.1.symm, fun i hi => have k := h.o.2 i (by rw [h.o.1]; exact hi); ⟨k.1.symm, k.2.symm⟩⟩, h.lim.symm, h.off.symm⟩
theorem QY.same.trans {x y z : QY} (h : x.same y) (k : y.same z) : x.same z :=
 ⟨h.ask.trans k.ask, h.dis.trans k.dis, ⟨h.s.1.trans k.s.1, fun i hi => have a := h.s.2 i hi; have b := k.s.2 i (by rw [← h.s.1]; exact hi); ⟨a.1.trans b.1, a.2.1.trans b.2.1, a.2.2.trans b.2.2⟩⟩, ⟨h.b.1.trans k.b.1, fun i hi => (h.b.2 i hi).tra (k.b.2 i (by rw [← h.b.1]; exact hi))⟩, ⟨h.g.1.trans k.g.1, fun i hi => Eq.trans (h.g.2 i hi) (k.g.2 i (by rw [← h.g.1]; exact hi))⟩, ⟨h.o.1.trans k.o.1, fun i hi => have a := h.o.2 i hi; have b := k.o.2 i (by rw [← h.o.1]; exact hi); ⟨a.1.trans b.1, a.2.trans b.2⟩⟩, h.lim.trans k.lim, h.off.trans k.off⟩
theorem NodeU.like {d d' : UN} (hk : d.k = d'.k) (hp : d.p.same d'.p) (he : d.e.same d'.e) (hv : d.v.b = d'.v.b) (ht : d.tb.map TB.td = d'.tb.map TB.td) (ha : d.an = d'.an) (hb : d.bn = d'.bn) (h : NodeU d) : NodeU d' := by
 obtain ⟨l1, l2, _⟩ := tds_like ht
 refine ⟨hk ▸ h.k0, hk ▸ h.k6, fun hh => (ptOk_same hp).1 (h.p1 (hk ▸ hh)), fun hh => (zeroP_same hp).1 (h.p0 (hk ▸ hh)), fun hh => (zeroE_same he).1 (h.e0 (hk ▸ hh)), fun hh => ?_, fun hh => ?_, fun hh => ?_, l1 ▸ h.tn, l2 h.tm, fun hh => ?_, fun hh => ?_⟩
 · rw [← hv]; exact h.v1 (hk ▸ hh)
 · rw [← hv]; exact h.v0 (hk ▸ hh)
 · have h0 := h.t0 (hk ▸ hh)
   rw [h0] at l1
   exact List.eq_nil_of_length_eq_zero l1.symm
 · rw [← ha]; exact h.a0 (hk ▸ hh)
 rw [← hb]; exact h.b0 (hk ▸ hh)
theorem uOk_imp {e : UT} : ∀ {e' : UT} {deep : Int}, e.same e' → uOk e deep → uOk e' deep := by
 induction e with
 | nil => exact fun h => False.elim h
 | mk d ka kb ia ib =>
  intro e' deep h
  cases e' with
  | nil => exact False.elim h
  | mk d' ka' kb' =>
  obtain ⟨h0, h1, h2, h3, h4, ⟨h5, h6⟩, ⟨h7, h8⟩⟩ := h
  exact fun hh => ⟨hh.1, hh.2.1.like h0 h1 h2 h3 h4 h5 h7, fun hx => (eOk_same h2).1 (hh.2.2.1 (h0 ▸ hx)), fun i hi => ia i (h6 i (by omega)) (hh.2.2.2.1 i (by omega)), fun i hi => ib i (h8 i (by omega)) (hh.2.2.2.2 i (by omega))⟩
theorem usz_same {e : UT} : ∀ {e' : UT}, e.same e' → usz e = usz e' := by
 induction e with
 | nil => exact fun h => False.elim h
 | mk d ka kb ia ib =>
  intro e' h
  cases e' with
  | nil => exact False.elim h
  | mk d' ka' kb' =>
  obtain ⟨h0, h1, h2, h3, h4, ⟨h5, h6⟩, ⟨h7, h8⟩⟩ := h
  have e1 : ownU d = ownU d' := by
   unfold ownU
   rw [h0, esz_same h2]
  rw [usz_mk, usz_mk, e1, ← h5, ← h7, sumN_congr (fun i hi => ia i (h6 i hi)), sumN_congr (fun i hi => ib i (h8 i hi))]
theorem ptV_like {x y : PB} (h : x.same y) (l : List (List Int)) : ptV x l = ptV y l := by
 show addV (addV (addV l x.s.v.b) x.p.v.b) x.o.v.b = addV (addV (addV l y.s.v.b) y.p.v.b) y.o.v.b
 rw [h.1.1, h.2.1.1, h.2.2.1]
theorem uV_same {e : UT} : ∀ {e' : UT} (l : List (List Int)), e.same e' → uV e l = uV e' l := by
 induction e with
 | nil => exact fun l h => False.elim h
 | mk d ka kb ia ib =>
  intro e' l h
  cases e' with
  | nil => exact False.elim h
  | mk d' ka' kb' =>
  obtain ⟨h0, h1, h2, h3, h4, ⟨h5, h6⟩, ⟨h7, h8⟩⟩ := h
  show foldN d.bn _ (foldN d.an _ (addV (eV d.e (ptV d.p l)) d.v.b)) = foldN d'.bn _ (foldN d'.an _ (addV (eV d'.e (ptV d'.p l)) d'.v.b))
  rw [← h5, ← h7, ← h3, ptV_like h1, eV_same h2, foldN_congr (fun i hi a => ia i a (h6 i hi)), foldN_congr (fun i hi a => ib i a (h8 i hi))]
theorem gV_same {n : Nat} {f f' : Nat → UT} (h : ∀ i, i < n → (f i).same (f' i)) (l : List (List Int)) : gV n f l = gV n f' l := foldN_congr (fun i hi a => uV_same a (h i hi)) l
theorem bV_same {e : UT} : ∀ {e' : UT} (l : List (List Int)), e.same e' → bV e l = bV e' l := by
 induction e with
 | nil => exact fun l h => False.elim h
 | mk d ka kb ia ib =>
  intro e' l h
  cases e' with
  | nil => exact False.elim h
  | mk d' ka' kb' =>
  obtain ⟨h0, h1, h2, h3, h4, ⟨h5, h6⟩, ⟨h7, h8⟩⟩ := h
  show (if d.k = 1 ∨ d.k = 2 then foldN d.bn _ (foldN d.an _ (addV (ptV d.p l) d.v.b)) else addV (ptV d.p l) d.v.b) = if d'.k = 1 ∨ d'.k = 2 then foldN d'.bn _ (foldN d'.an _ (addV (ptV d'.p l) d'.v.b)) else addV (ptV d'.p l) d'.v.b
  rw [← h0, ← h5, ← h7, ← h3, ptV_like h1, foldN_congr (fun i hi a => ia i a (h6 i hi)), foldN_congr (fun i hi a => ib i a (h8 i hi))]
theorem UT.same.kv {e e' : UT} (h : e.same e') : e.d.k = e'.d.k ∧ e.d.v.b = e'.d.v.b := by
 cases e with
 | nil => exact False.elim h
 | mk d ka kb =>
  cases e' with
  | nil => exact False.elim h
  | mk d' ka' kb' => exact ⟨h.1, h.2.2.2.1⟩
theorem ubN_imp {n : Nat} {f f' : Nat → UT} (h : ∀ i, i < n → (f i).same (f' i)) {i : Nat} (hi : i < n) (hu : ubN f i) : ubN f' i := by
 intro hh
 refine hu ⟨by rw [(h i hi).kv.1]; exact hh.1, ?_⟩
 rw [(h i hi).kv.2, foldN_congr (fun j hj a => bV_same a (h j (by omega)))]
 exact hh.2
theorem ubd_imp {e : UT} : ∀ {e' : UT}, e.same e' → ubd e → ubd e' := by
 induction e with
 | nil => exact fun h => False.elim h
 | mk d ka kb ia ib =>
  intro e' h
  cases e' with
  | nil => exact False.elim h
  | mk d' ka' kb' =>
  obtain ⟨h0, h1, h2, h3, h4, ⟨h5, h6⟩, ⟨h7, h8⟩⟩ := h
  exact fun hh => ⟨fun i hi => ⟨ubN_imp h6 (by omega) (hh.1 i (by omega)).1, ia i (h6 i (by omega)) (hh.1 i (by omega)).2⟩, fun i hi => ⟨ubN_imp h8 (by omega) (hh.2 i (by omega)).1, ib i (h8 i (by omega)) (hh.2 i (by omega)).2⟩⟩
theorem gBd_imp {n : Nat} {f f' : Nat → UT} (h : ∀ i, i < n → (f i).same (f' i)) (hb : gBd n f) : gBd n f' := fun i hi => ⟨ubN_imp h hi (hb i hi).1, ubd_imp (h i hi) (hb i hi).2⟩
theorem tTx_same {t t' : TB} (h : t.td = t'.td) : tTx t = tTx t' := by
 simp only [TB.td, TD.mk.injEq] at h
 obtain ⟨h1, h2, h3, h4⟩ := h
 show showL t.t.k t.t.n t.t.s t.b ++ [32] = showL t'.t.k t'.t.n t'.t.s t'.b ++ [32]
 rw [h1, h2, h3, h4]
theorem itTx_same {x y : IB} (h : x.same y) : itTx x = itTx y := by
 unfold itTx
 rw [h.1, tTx_same h.2]
theorem eTx_same {lim : Int} {e : ET} : ∀ {e' : ET} {deep : Int}, e.same e' → eOk lim e deep → eTx e = eTx e' := by
 induction e with
 | nil => exact fun h => False.elim h
 | mk d kid ih =>
  intro e' deep h hok
  cases e' with
  | nil => exact False.elim h
  | mk d' kid' =>
  obtain ⟨h0, h1, h2, h3, h4, h5⟩ := h
  obtain ⟨_, ⟨hk, _⟩, hkid⟩ := hok
  have hi := fun i (hi : i < d.n) => ih i (h5 i hi) (hkid i hi)
  rw [eTx_mk, eTx_mk, ← h0, ← h1, ← h2, ← h4, tTx_same h3, catN_congr hi]
  unfold kOk at hk
  rcases hk with ⟨hk, hn⟩ | ⟨hk, hn⟩ | ⟨hk, hn⟩ | ⟨hk, hn⟩ | ⟨hk, hn1, hn2⟩
  · rcases hk with hk | hk | hk <;> simp [hk]
  · have e0 := hi 0 (by omega)
    rcases hk with hk | hk <;> simp [hk, e0]
  · have e0 := hi 0 (by omega)
    have e1 := hi 1 (by omega)
    simp [hk, e0, e1]
  · have e0 := hi 0 (by omega)
    have e1 := hi 1 (by omega)
    have e2 := hi 2 (by omega)
    simp [hk, e0, e1, e2]
  simp [hk]
theorem uTx_same {e : UT} : ∀ {e' : UT} {deep : Int}, e.same e' → uOk e deep → uTx e = uTx e' := by
 induction e with
 | nil => exact fun h => False.elim h
 | mk d ka kb ia ib =>
  intro e' deep h hok
  cases e' with
  | nil => exact False.elim h
  | mk d' ka' kb' =>
  obtain ⟨h0, h1, h2, h3, h4, ⟨h5, h6⟩, ⟨h7, h8⟩⟩ := h
  obtain ⟨_, hN, hX, hA, hB⟩ := hok
  obtain ⟨l1, _, l3⟩ := tds_like h4
  have ea : catN d.an (fun i => uTx (ka i)) = catN d'.an (fun i => uTx (ka' i)) := by rw [← h5]; exact catN_congr (fun i hi => ia i (h6 i hi) (hA i hi))
  have eb : catN d.bn (fun i => uTx (kb i)) = catN d'.bn (fun i => uTx (kb' i)) := by rw [← h7]; exact catN_congr (fun i hi => ib i (h8 i hi) (hB i hi))
  have et : catN d.tb.length (fun i => tTx (tbG d.tb i)) = catN d'.tb.length (fun i => tTx (tbG d'.tb i)) := by rw [← l1]; exact catN_congr (fun i hi => tTx_same (l3 i hi))
  have e4 := fun (hx : d.k = 4 ∨ d.k = 5) => eTx_same h2 (hX hx)
  rw [uTx_at (e := .mk d ka kb) (fun h => UT.noConfusion h), uTx_at (e := .mk d' ka' kb') (fun h => UT.noConfusion h)]
  show (if d.k = 0 then itTx d.p.s ++ (itTx d.p.p ++ (itTx d.p.o ++ [46, 32])) else if d.k = 1 then [79, 80, 84, 73, 79, 78, 65, 76, 32] ++ ([123, 32] ++ (catN d.an (fun i => uTx (ka i)) ++ [125, 32]))
   else if d.k = 2 then [85, 78, 73, 79, 78, 32] ++ (([123, 32] ++ (catN d.an (fun i => uTx (ka i)) ++ [125, 32])) ++ ([123, 32] ++ (catN d.bn (fun i => uTx (kb i)) ++ [125, 32]))) else if d.k = 3 then [77, 73, 78, 85, 83, 32] ++ ([123, 32] ++ (catN d.an (fun i => uTx (ka i)) ++ [125, 32])) else if d.k = 4 then [70, 73, 76, 84, 69, 82, 32] ++ eTx d.e else if d.k = 5 then [66, 73, 78, 68, 32] ++ (eTx d.e ++ vTx d.v.b)
   else [86, 65, 76, 85, 69, 83, 32] ++ (vTx d.v.b ++ ([123, 32] ++ (catN d.tb.length (fun i => tTx (tbG d.tb i)) ++ [125, 32])))) =
   if d'.k = 0 then itTx d'.p.s ++ (itTx d'.p.p ++ (itTx d'.p.o ++ [46, 32])) else if d'.k = 1 then [79, 80, 84, 73, 79, 78, 65, 76, 32] ++ ([123, 32] ++ (catN d'.an (fun i => uTx (ka' i)) ++ [125, 32]))
   else if d'.k = 2 then [85, 78, 73, 79, 78, 32] ++ (([123, 32] ++ (catN d'.an (fun i => uTx (ka' i)) ++ [125, 32])) ++ ([123, 32] ++ (catN d'.bn (fun i => uTx (kb' i)) ++ [125, 32]))) else if d'.k = 3 then [77, 73, 78, 85, 83, 32] ++ ([123, 32] ++ (catN d'.an (fun i => uTx (ka' i)) ++ [125, 32])) else if d'.k = 4 then [70, 73, 76, 84, 69, 82, 32] ++ eTx d'.e else if d'.k = 5 then [66, 73, 78, 68, 32] ++ (eTx d'.e ++ vTx d'.v.b)
   else [86, 65, 76, 85, 69, 83, 32] ++ (vTx d'.v.b ++ ([123, 32] ++ (catN d'.tb.length (fun i => tTx (tbG d'.tb i)) ++ [125, 32])))
  rw [← h0, ← h3, ea, eb, et, itTx_same h1.1, itTx_same h1.2.1, itTx_same h1.2.2]
  by_cases hx : d.k = 4 ∨ d.k = 5
  · rw [e4 hx]
  have n4 : ¬ d.k = 4 := fun h => hx (.inl h)
  have n5 : ¬ d.k = 5 := fun h => hx (.inr h)
  simp only [n4, n5, if_false]
theorem gTx_same {n : Nat} {f f' : Nat → UT} {deep : Int} (h : ∀ i, i < n → (f i).same (f' i)) (hk : ∀ i, i < n → uOk (f i) deep) : gTx n f = gTx n f' := by
 unfold gTx
 rw [catN_congr (fun i hi => uTx_same (h i hi) (hk i hi))]
theorem selTx_same {s t : SE} (h : s.same t) : selTx s = selTx t := by
 unfold selTx
 rw [h.1, h.2.1, h.2.2]
theorem keyTx_same {s t : KY} (h : s.same t) : keyTx s = keyTx t := by
 unfold keyTx
 rw [h.1, h.2]
theorem qTx_same {x y : QY} (h : x.same y) (hb : bodyOk x) : qTx x = qTx y := by
 have e1 : catN x.sn (fun i => selTx (x.sel i)) = catN y.sn (fun i => selTx (y.sel i)) := by rw [← h.s.1]; exact catN_congr (fun i hi => selTx_same (h.s.2 i hi))
 have e2 : catN x.gn (fun i => vTx (x.grp i).b) = catN y.gn (fun i => vTx (y.grp i).b) := by rw [← h.g.1]; exact catN_congr (fun i hi => congrArg vTx (h.g.2 i hi))
 have e3 : catN x.on (fun i => keyTx (x.key i)) = catN y.on (fun i => keyTx (y.key i)) := by rw [← h.o.1]; exact catN_congr (fun i hi => keyTx_same (h.o.2 i hi))
 have e4 : gTx x.bn x.body = gTx y.bn y.body := by rw [← h.b.1]; exact gTx_same h.b.2 hb.1
 unfold qTx headTx tailTx disTx starTx grpTx ordTx limTx offTx
 rw [e1, e2, e3, e4, h.ask, h.dis, h.lim, h.off, h.s.1, h.g.1, h.o.1]
theorem outs_same {x y : QY} (h : x.same y) {k : Nat} (hk : k ≤ x.sn) : outs x k = outs y k := by
 induction k with
 | zero => rfl
 | succ k ih =>
  show outs x k ++ [(x.sel k).v.b] = outs y k ++ [(y.sel k).v.b]
  rw [ih (by omega), (h.s.2 k (by omega)).2.2]
theorem inG_imp {x y : QY} (h : x.same y) {k : Nat} (hk : k ≤ x.gn) {b : List Int} (hg : inG x k b) : inG y k b := by
 obtain ⟨j, hj, e⟩ := hg
 have h1 : (x.grp j).b = (y.grp j).b := h.g.2 j (by omega)
 exact ⟨j, hj, by rw [← h1]; exact e⟩
theorem SelP.imp {body : List (List Int)} {s t : SE} (h : s.same t) (hs : SelP body s) : SelP body t := by
 unfold SelP at hs ⊢
 rwa [← h.1, ← h.2.1, ← h.2.2]
theorem bodyOk_imp {x y : QY} (h : x.same y) (hb : bodyOk x) : bodyOk y := by
 have hn := h.b.1
 refine ⟨fun i hi => uOk_imp (h.b.2 i (by omega)) (hb.1 i (by omega)), ?_⟩
 rw [← hn, ← sumN_congr (fun i hi => usz_same (h.b.2 i hi))]
 exact hb.2
theorem qOk_imp {x y : QY} (h : x.same y) (hq : qOk x) : qOk y := by
 have eV : gV y.bn y.body [] = gV x.bn x.body [] := by rw [← h.b.1]; exact (gV_same h.b.2 []).symm
 have hs := h.s.1
 have hg := h.g.1
 have ho := h.o.1
 have hb := h.b.1
 refine ⟨bodyOk_imp h hq.b, ?_, by rw [eV]; exact hq.v, by rw [← hs, ← hg, ← ho, ← h.lim, ← h.off]; exact hq.n, fun ha => ?_, fun ha => ?_⟩
 · rw [← hb]
   exact gBd_imp h.b.2 hq.d
 · rw [← hs, ← hg, ← ho, ← h.lim, ← h.off, ← h.dis]
   exact hq.a (by rw [h.ask]; exact ha)
 have k := hq.s (by rw [h.ask]; exact ha)
 rw [eV]
 have hg' : ∀ i, i < x.gn → (x.grp i).b = (y.grp i).b := fun i hi => h.g.2 i hi
 refine ⟨fun i hi => ?_, fun i hi => ?_, fun hh => ?_, fun i hi => ?_⟩
 · have k1 := k.s i (by omega)
   have e : sV x i = sV y i := (h.s.2 i (by omega)).2.2
   rw [← e, ← outs_same h (show i ≤ x.sn by omega)]
   exact ⟨k1.1, k1.2.imp (h.s.2 i (by omega))⟩
 · have k1 := k.g i (by omega)
   rw [← hg' i (by omega)]
   exact ⟨k1.1, fun hh => k1.2 (inG_imp h.symm (by omega) hh)⟩
 · have k1 := k.p (by
    rcases hh with hh | ⟨i, hi, hf⟩
    · exact .inl (by omega)
    exact .inr ⟨i, by omega, by rw [(h.s.2 i (by omega)).1]; exact hf⟩)
   refine ⟨by omega, fun i hi hf => ?_⟩
   have e : sV x i = sV y i := (h.s.2 i (by omega)).2.2
   rw [← e, ← hg]
   exact inG_imp h nR (k1.2 i (by omega) (by rw [(h.s.2 i (by omega)).1]; exact hf))
 have k1 := k.o i (by omega)
 have e := (h.o.2 i (by omega)).1
 rw [← e, ← hs, ← outs_same h (Nat.le_refl x.sn)]
 exact k1
theorem QOK_imp {x y : QY} (h : x.same y) (hq : QOK x) : QOK y := ⟨qOk_imp h hq.1, by rw [← qTx_same h hq.1.b]; exact hq.2⟩
theorem QOK_same {x y : QY} (h : x.same y) : QOK x ↔ QOK y := ⟨QOK_imp h, QOK_imp h.symm⟩
theorem QY.one (x : QY) : (x.ar : Array Value).all (·.oneCell') = true := all_oneCell_toArray (cs := x.cl) (by intro v hv; simp only [List.mem_cons, List.not_mem_nil, or_false] at hv; rcases hv with rfl | rfl | rfl | rfl | rfl | rfl | rfl | rfl <;> rfl)
def CpyQuery (e : QY) (W : World) (r : Ending) (w' : World) : Prop := ∃ y : QY, r = .returned (.agg #[.bool y.ask, .bool y.dis, .slice y.sa y.sn y.sc, .slice y.ba y.bn y.bc, .slice y.ga y.gn y.gc, .slice y.oa y.on y.oc, .int .i64 y.lim, .int .i64 y.off]) ∧ y.own W.heap.size w' ∧ e.same y ∧ Bl W w'
def Marked (w : World) (a : Option Addr) (len : Nat) (k : Int) : Prop := len = 0 ∨ ∃ g, a = some ⟨g, 0, none⟩ ∧ g < w.heap.size ∧ ∀ i, i < len → w.cell? ⟨g, i, none⟩ = some (.int .u8 ((k + (i : Nat)) % 256))
theorem Marked.below {w w' : World} {a : Option Addr} {len : Nat} {k : Int} (h : Marked w a len k) (hb : Bl w w') : Marked w' a len k := by
 rcases h with h | ⟨g, ha, hl, hc⟩
 · exact .inl h
 exact .inr ⟨g, ha, Nat.lt_of_lt_of_le hl hb.size, fun i hi => (hb.cell (p := ⟨g, i, none⟩) hl).trans (hc i hi)⟩
theorem mark_zero (a : Option Addr) (cap : Nat) (k : Int) (w : World) : Calls Tryz.prog 20 #[.slice a 0 cap, .int .i64 k] w fun e w' => e = .returned (.int .i64 k) ∧ w' = w := by
 go_enter Tryz.func20, Tryz.ntmps20
 go_wp2
 refine wp_loop_rounds 1 ?_
 rw [rounds_succ]
 go_wp2
 go_ret
 exact ⟨rfl, rfl⟩
def MarkRes (w : World) (B : Nat) (a : Option Addr) (len : Nat) (k : Int) (e : Ending) (w' : World) : Prop := e = .returned (.int .i64 (k + len)) ∧ Marked w' a len k ∧ Below B w w' ∧ w'.heap.size = w.heap.size
theorem mark_nw (a : Option Addr) (len cap B : Nat) (bs : List Int) (k : Int) (w : World) (h : Nw w B a len bs) (hk : 0 ≤ k) (hk2 : k ≤ 4194304) (hlen : len ≤ 1048576) :
 Calls Tryz.prog 20 #[.slice a len cap, .int .i64 k] w fun e w' => MarkRes w B a len k e w' := by
 rcases h with ⟨rfl, rfl, rfl⟩ | ⟨g, rfl, hB, ho⟩
 · refine (mark_zero none cap k w).mono ?_
   rintro e w' ⟨rfl, rfl⟩
   exact ⟨by simp, .inl rfl, Below.refl _ _, rfl⟩
 refine (markByteS_own g len cap k w hk hk2 hlen ho.2.2.1 ho.2.2.2).mono ?_
 rintro e w' ⟨rfl, hb, hc, _⟩
 exact ⟨rfl, .inr ⟨g, rfl, by rw [hb.size]; exact ho.2.1, hc⟩, hb.below hB, hb.size⟩
theorem held_any (a : Option Addr) (len cap : Nat) (k : Int) (w : World) (h : Marked w a len k) (hk : 0 ≤ k) (hk2 : k ≤ 4194304) (hlen : len ≤ 1048576) :
 Calls Tryz.prog 21 #[.slice a len cap, .int .i64 k] w fun e w' => e = .returned (.int .i64 (k + len)) ∧ w' = w := by
 rcases h with rfl | ⟨g, rfl, hl, hc⟩
 · go_enter Tryz.func21, Tryz.ntmps21
   go_wp2
   refine wp_loop_rounds 1 ?_
   rw [rounds_succ]
   go_wp2
   go_ret
   exact ⟨by simp, rfl⟩
 go_enter Tryz.func21, Tryz.ntmps21
 go_wp2
 go_loop [1, 5] (fun q i => ∃ j : Nat, j ≤ len ∧ i = .int .i64 j ∧ q = .int .i64 (k + j)) (fun _ i => len - (intOf i).toNat)
 case atStart => exact ⟨0, nZ, rfl, by simp⟩
 obtain ⟨j, hj, rfl, rfl⟩ := hrel
 by_cases hlt : j < len
 · have hx := hc j hlt
   have hw : IntKind.u8.wrap (k + (j : Int)) = (k + (j : Int)) % 256 := by rw [IntKind.wrap_u8]
   clear hc
   go_wp2
   go_round
   case rel => exact ⟨j + 1, by omega, by go_num, by go_num⟩
   case measure => simp [intOf]; omega
 obtain rfl : j = len := by omega
 go_wp2
 go_ret
 exact ⟨rfl, rfl⟩
theorem bl_drewN {w : World} (q : Nat) : Bl w (w.drewN q) := below_drewN brf q
theorem Nw.midQ {w w' : World} {B C B' len : Nat} {a : Option Addr} {bs : List Int} (h : Nw w B' a len bs) (hm : Mid B C w w') (hC : C ≤ B') : Nw w' B' a len bs := by
 rcases h with h | ⟨g, ha, hB, ho1, ho2, ho3, ho4⟩
 · exact .inl h
 have hb : w'.heap[g]? = w.heap[g]? := hm.block g (.inr (by omega))
 have ec : ∀ j, w'.cell? ⟨g, j, none⟩ = w.cell? ⟨g, j, none⟩ := fun j => World.cell?_of_block (w := w) (a := ⟨g, j, none⟩) hb
 have ef : ∀ j, w'.frozen? ⟨g, j, none⟩ = w.frozen? ⟨g, j, none⟩ := fun j => World.frozen?_of_block (w := w) (a := ⟨g, j, none⟩) hb
 refine .inr ⟨g, ha, hB, ⟨ho1.1, ho1.2.1, ho1.2.2.1, ?_⟩, by rw [hm.size]; exact ho2, fun i hi => by rw [ec]; exact ho3 i hi, fun i hi => by rw [ef]; exact ho4 i hi⟩
 rcases ho1.2.2.2 with h0 | ⟨b, off, hq, hlt, hc⟩
 · exact .inl h0
 cases hq
 exact .inr ⟨g, 0, rfl, by rw [hm.size]; exact hlt, fun i hi => by rw [ec]; exact hc i hi⟩
theorem TqT.same {x y : QY} {ok : Bool} {L : List Int} (h : TqT x ok L) (hs : x.same y) : TqT y ok L := by
 rcases h with ⟨h1, h2, h3⟩ | ⟨h1, h2, h3⟩
 · exact .inl ⟨(QOK_same hs).1 h1, h2, h3.trans (qTx_same hs h1.1.say.1.b)⟩
 exact .inr ⟨fun h => h1 ((QOK_same hs).2 h), h2, h3⟩
theorem walkQueryText (e : QY) (w : World) (hc : e.came w) (ht : Tab w) :
 Calls Tryz.prog 5 #[.agg e.ar] w fun r w' => r = .returned (.bool true) ∧ Bl w w' := by
 obtain ⟨ok, L, hL⟩ := tqT_some e
 have hlen := hL.len
 have HTB : Hd (∀ w', Bl w w' → Tab w') := fun w' h => ht.below h
 have HLI : Hd (e.wt ≤ 1048576 → e.lies 0 w) := fun h => hc.lies (QY.small_of hc h)
 have HZ : Hd (∀ W, Bl w W → Cl 6 #[.agg e.ar, .int .i64 1048576] W fun r w' => Sw 1048576 e.wt r ∧ Bl W w') := fun W hb => szQuery_w e 1048576 W (by omega) (by omega) (hc.below hb)
 have HXW : Hd (Box (w.alloc (.cells e.ar 27)) w.heap.size e.cl) := Box.new w e.ar 27 (0, 0)
 have HBW : Hd (Bl w (w.alloc (.cells e.ar 27))) := bl_a _
 have HTO : Hd (∀ W, e.lies 0 W → Cl 8 #[.agg e.ar] W (CpyQuery e W)) := fun W h => toQueryW e W h
 have HSO : Hd (∀ (W : World) (B : Nat) (y : QY), y.own B W → e.same y → Cl 17 #[.agg y.ar] W (TqR W ok L)) := fun W B y h hs => specQueryText_any y W (h.1.base nZ) (fun i hi => (h.2.b.2 i hi).2.caps) h.2.c.1 h.2.c.2 ok L (hL.same hs)
 have HIO : Hd (∀ (W : World) (y : QY), y.lies 0 W → Tab W → e.same y → Cl 18 #[.agg y.ar] W (TqR W ok L)) := fun W y h hT hs => implQueryText_any y W h hT ok L (hL.same hs)
 have HEQ : Hd (∀ (W : World) (y z : QY), y.lies 0 W → z.lies 0 W → e.same y → e.same z → Cl 11 #[.agg y.ar, .agg z.ar] W (Yes W)) := fun W y z h1 h2 h3 h4 => eqQuery_same y z W h1 h2 (h3.symm.trans h4)
 clear hc ht hL
 go_in
 go_upto_region 1 with fail
 generalize hW0 : (w.alloc (.cells e.ar 27)) = W0 at *
 clear hW0
 have lr : W0.rangeAt w.heap.size 0 e.cl := HXW.o.range 0 _ rfl
 go_wp2_with (with_reducible refine wpq_at ?_; refine wpList_load_mid rfl 27 _ rfl _ _ rfl e.cl _ lr Tryz.underlying27 rfl (by kernel_rfl) ?_; try simp only [Act.put, sA, zA, cA])
 refine (HZ.o W0 HBW.o).mono ?_
 rintro r w1 ⟨⟨r1, rfl, hr1⟩, hb1⟩
 have HX0 : Hd (Box w1 w.heap.size e.cl) := HXW.o.below hb1
 have HB1 : Hd (Bl w w1) := bl_trans HBW.o hb1
 clear hb1 lr HXW HBW HZ
 rcases hr1 with rfl | ⟨p1, q1, s1⟩
 · go_wp2_with fail
   go_ret
   exact ⟨rfl, HB1.o⟩
 have n1 : ¬ r1 < 0 := by omega
 have HWT : Hd (e.wt ≤ 1048576) := (show _ ≤ _ by omega)
 have HL : Hd (e.lies 0 w) := HLI.o HWT.o
 have hT1 := HTO.o w1 (HL.o.below HB1.o)
 have lr : w1.rangeAt w.heap.size 0 e.cl := HX0.o.range 0 _ rfl
 clear p1 q1 s1 HLI
 go_wp2_with (with_reducible refine wpq_at ?_; refine wpList_load_mid rfl 27 _ rfl _ _ rfl e.cl _ lr Tryz.underlying27 rfl (by kernel_rfl) ?_; try simp only [Act.put, sA, zA, cA])
 refine hT1.mono ?_
 rintro r w2 ⟨y, rfl, hy, hs, hb2⟩
 have HB2 : Hd (Bl w1 w2) := hb2
 have hO := HSO.o w2 _ y hy hs
 clear hT1 hy hs hb2 lr
 go_wp2_with fail
 refine hO.mono ?_
 rintro r w3 ⟨a0, cp0, rfl, hN3, hb3⟩
 have HV3 : Hd (Bs w3 a0 L.length L) := hN3.bs
 have HB3 : Hd (Bl w1 w3) := bl_trans HB2.o hb3
 have HBw3 : Hd (Bl w w3) := bl_trans HB1.o HB3.o
 have HX3 : Hd (Box w3 w.heap.size e.cl) := HX0.o.below HB3.o
 clear hO hN3 hb3 HSO HX0 HB1 HB2 HB3
 have hT2 := HTO.o w3 (HL.o.below HBw3.o)
 have lr : w3.rangeAt w.heap.size 0 e.cl := HX3.o.range 0 _ rfl
 go_wp2_with (with_reducible refine wpq_at ?_; refine wpList_load_mid rfl 27 _ rfl _ _ rfl e.cl _ lr Tryz.underlying27 rfl (by kernel_rfl) ?_; try simp only [Act.put, sA, zA, cA])
 refine hT2.mono ?_
 rintro r w4 ⟨z, rfl, hz, hs, hb4⟩
 have HO4 : Hd (z.own w3.heap.size w4) := hz
 have HZ4 : Hd (z.lies 0 w4) := hz.1.base nZ
 have HS4 : Hd (e.same z) := hs
 have HB4 : Hd (Bl w3 w4) := hb4
 clear hT2 hz hs hb4 lr
 have st : (w4.alloc (.cells zQa 34)).there w4.heap.size 0 8 := (OB.new w4 zQa 34).there 0 8 (by simp)
 have on : (z.ar : Array Value).all (·.oneCell') = true := QY.one z
 have HXz5 : Hd (Box ((w4.alloc (.cells zQa 34)).setCells w4.heap.size 0 z.cl) w4.heap.size z.cl) := ((OB.new w4 zQa 34).put z.cl 0 z.cl (show 0 + 8 ≤ 8 by omega) rfl).box
 have HB5 : Hd (Bl w4 ((w4.alloc (.cells zQa 34)).setCells w4.heap.size 0 z.cl)) := below_sets _ nR _ _ _ (bl_a _)
 go_wp2_with (with_reducible refine wpq_at ?_; refine store_stop 34 (.tmp 6) (.tmp 26) rfl ?_)
 change wpList _ _ _ _ _ _
 refine wpList_store_mid rfl 34 _ _ rfl w4.heap.size 0 z.ar rfl rfl st (by kernel_rfl) on ?_
 try simp only [Act.put]
 generalize (w4.alloc (.cells zQa 34)).setCells w4.heap.size 0 z.cl = W5 at *
 clear st on
 have HD5 : Hd (Bl w3 W5) := bl_trans HB4.o HB5.o
 have hI5 := HIO.o W5 z (HZ4.o.below HB5.o) (HTB.o _ (bl_trans HBw3.o HD5.o)) HS4.o
 have HG5 : Hd (w4.heap.size < W5.heap.size) := HXz5.o.1
 have h34 : w3.heap.size ≤ w4.heap.size := HB4.o.size
 have lr : W5.rangeAt w4.heap.size 0 z.cl := HXz5.o.range 0 _ rfl
 go_wp2_with (with_reducible refine wpq_at ?_; refine wpList_load_mid rfl 34 _ rfl _ _ rfl z.cl _ lr Tryz.underlying34 rfl (by kernel_rfl) ?_; try simp only [Act.put, sA, zA, cA])
 refine hI5.mono ?_
 rintro r w6 ⟨ag, cg, rfl, hN6, hb6⟩
 have HG6 : Hd (Nw w6 W5.heap.size ag L.length L) := hN6
 have HD6 : Hd (Bl w3 w6) := bl_trans HD5.o hb6
 have HE6 : Hd (Bl w4 w6) := bl_trans HB5.o hb6
 have HX6 : Hd (Box w6 w4.heap.size z.cl) := HXz5.o.below hb6
 clear hI5 hN6 hb6 lr HXz5 HD5 HB5
 go_wp2_with fail
 refine (eqByteS_any ag a0 L.length L.length cg cp0 L L _ HG6.o.bs (HV3.o.below HD6.o)).mono ?_
 rintro r w7 ⟨rfl, q7, rfl⟩
 have HG7 : Hd (Nw (w6.drewN q7) W5.heap.size ag L.length L) := HG6.o.below (bl_drewN q7)
 have HD7 : Hd (Bl w3 (w6.drewN q7)) := bl_trans HD6.o (bl_drewN q7)
 have HE7 : Hd (Bl w4 (w6.drewN q7)) := bl_trans HE6.o (bl_drewN q7)
 have HX7 : Hd (Box (w6.drewN q7) w4.heap.size z.cl) := HX6.o.below (bl_drewN q7)
 clear HG6 HD6 HE6 HX6
 generalize w6.drewN q7 = w7 at *
 have HXe : Hd (Box w7 w.heap.size e.cl) := HX3.o.below HD7.o
 have HBX : Hd (∀ w', Bl w7 w' → w'.rangeAt w.heap.size 0 e.cl ∧ w'.rangeAt w4.heap.size 0 z.cl) := fun w' hg => ⟨(HXe.o.below hg).range 0 _ rfl, (HX7.o.below hg).range 0 _ rfl⟩
 have HBw7 : Hd (Bl w w7) := bl_trans HBw3.o HD7.o
 have HT3 : Hd (Cl 8 #[.agg e.ar] w7.drew (CpyQuery e w7.drew)) := HTO.o w7.drew (HL.o.below (Below.drew HBw7.o))
 have HEQ7 : Hd (∀ (w8 : World) (x : QY), Below w7.heap.size w7.drew w8 → x.lies 0 w8 → e.same x → Cl 11 #[.agg z.ar, .agg x.ar] w8 (Yes w8)) := by
  intro w8 x hb h1 h2
  exact HEQ.o w8 z x (HZ4.o.below ((Below.drew HE7.o).trans (hb.mono HE7.o.size))) h1 HS4.o h2
 clear HEQ HXe
 go_wp2_with fail
 refine whd (fun w' => Bl w7 w') ?_ fun hHeld => ?_
 · exact Below.drew brf
 refine takeq (i := 0) 41 (v := .agg z.ar) rfl rfl (by kernel_rfl) (by kernel_rfl) (by kernel_rfl) (fun _ _ _ h => h) (yieldsIf_load_mid (by rfl) 34 _ rfl w4.heap.size 0 rfl z.cl _ (fun w' h => (HBX.o w' h).2) Tryz.underlying34 rfl (by kernel_rfl)) hHeld ?r1
 try simp only [Act.put, sA, zA, cA]
 refine takeq (i := 1) 42 (v := .agg e.ar) rfl rfl (by kernel_rfl) (by kernel_rfl) (by kernel_rfl) (fun _ _ _ h => h) (yieldsIf_load_mid (by rfl) 27 _ rfl w.heap.size 0 rfl e.cl _ (fun w' h => (HBX.o w' h).1) Tryz.underlying27 rfl (by kernel_rfl)) hHeld ?r2
 try simp only [Act.put, sA, zA, cA]
 refine rdA 2 fun K hK => ?_
 go_simp
 refine HT3.o.mono ?_
 rintro r w8 ⟨x, rfl, hx, hs8, hb8⟩
 have HB8 : Hd (Below w7.heap.size w7.drew w8) := hb8
 have hEQ := HEQ7.o w8 x HB8.o (hx.1.base nZ) hs8
 clear hx hs8 hb8 HEQ7 HT3 HBX
 go_wp2_with fail
 refine hK.out _ _ ?_ fun hHeld => ?_
 · exact bdr.trans HB8.o
 clear hK K
 try simp only [Act.put, sA, zA, cA]
 refine rdA 3 fun K hK => ?_
 go_simp
 refine hEQ.mono ?_
 rintro r w10 ⟨rfl, hb10⟩
 have HB10 : Hd (Bl w7 w10) := (bdr.trans HB8.o).trans (hb10.mono (by have := HB8.o.size; simpa using this))
 clear hEQ hb10 HB8
 go_wp2_with fail
 refine hK.out _ _ ?_ fun hHeld => ?_
 · exact HB10.o
 clear hK K
 try simp only [Act.put, sA, zA, cA]
 refine takeq (i := 4) 45 (v := .bool false) rfl rfl (by kernel_rfl) (by kernel_rfl) (by kernel_rfl) (fun _ _ _ h => h) (Or.inl ⟨by rfl, ?y3⟩) hHeld ?r3
 case y3 => (intro w' hSw; go_simp; (try with_reducible rfl))
 try simp only [Act.put, sA, zA, cA]
 refine wpAnyH_done (by kernel_rfl) ?_ _
 have HG10 : Hd (Nw w10 W5.heap.size ag L.length L) := HG7.o.below HB10.o
 have HD10 : Hd (Bl w3 w10) := bl_trans HD7.o HB10.o
 have HE10 : Hd (Bl w4 w10) := bl_trans HE7.o HB10.o
 have HX10 : Hd (Box w10 w4.heap.size z.cl) := HX7.o.below HB10.o
 clear hHeld HG7 HD7 HE7 HX7 HBw7 HB10
 have lr : w10.rangeAt w4.heap.size 0 z.cl := HX10.o.range 0 _ rfl
 have hM := markQuery_b w3.heap.size w4.heap.size z w10 (by rw [← QY.wt_same HS4.o HL.o HO4.o.1]; exact HWT.o) (fun o => HO4.o.marks (bl_alloc HE10.o o))
 go_wp2_with (with_reducible refine wpq_at ?_; refine wpList_load_mid rfl 34 _ rfl _ _ rfl z.cl _ lr Tryz.underlying34 rfl (by kernel_rfl) ?_; try simp only [Act.put, sA, zA, cA])
 refine hM.mono ?_
 rintro r w11 ⟨q11, o11, rfl, hq11, hM11⟩
 have HD11 : Hd (Bl w3 w11) := (bl_alloc HD10.o o11).trans hM11.below
 have HG11 : Hd (Nw w11 W5.heap.size ag L.length L) := (HG10.o.below (bl_a o11)).midQ hM11 (Nat.le_of_lt HG5.o)
 have h35 : w3.heap.size ≤ W5.heap.size := Nat.le_trans h34 (Nat.le_of_lt HG5.o)
 clear lr hM hM11 HD10 HG10 HE10 HX10 HO4 HZ4
 have hk : ¬ (q11 < 0) := by omega
 go_wp2_with fail
 refine (eqByteS_any ag a0 L.length L.length cg cp0 L L _ HG11.o.bs (HV3.o.below HD11.o)).mono ?_
 rintro r w12 ⟨rfl, q12, rfl⟩
 have HG12 : Hd (Nw (w11.drewN q12) W5.heap.size ag L.length L) := HG11.o.below (bl_drewN q12)
 have HD12 : Hd (Bl w3 (w11.drewN q12)) := bl_trans HD11.o (bl_drewN q12)
 clear HG11 HD11
 generalize w11.drewN q12 = w12 at *
 go_wp2_with fail
 refine (mark_nw ag L.length cg W5.heap.size L 1 _ HG12.o (by omega) (by omega) (by omega)).mono ?_
 rintro r w13 ⟨rfl, hM, hb13, hz13⟩
 have HD13 : Hd (Bl w3 w13) := HD12.o.trans (hb13.mono h35)
 have HM13 : Hd (Marked w13 ag L.length 1) := hM
 clear hM hb13 hz13 HD12 HG12 hk
 go_wp2_with fail
 refine (held_any ag L.length cg 1 _ HM13.o (by omega) (by omega) (by omega)).mono ?_
 rintro r w13' ⟨rfl, rfl⟩
 have HBw13 : Hd (Bl w w13') := bl_trans HBw3.o HD13.o
 have lr : w13'.rangeAt w.heap.size 0 e.cl := (HX3.o.below HD13.o).range 0 _ rfl
 have hT4 := HTO.o w13' (HL.o.below HBw13.o)
 go_wp2_with (with_reducible refine wpq_at ?_; refine wpList_load_mid rfl 27 _ rfl _ _ rfl e.cl _ lr Tryz.underlying27 rfl (by kernel_rfl) ?_; try simp only [Act.put, sA, zA, cA])
 refine hT4.mono ?_
 rintro r w14 ⟨u, rfl, hu, hs, hb14⟩
 have HD14 : Hd (Bl w3 w14) := bl_trans HD13.o hb14
 have HM14 : Hd (Marked w14 ag L.length 1) := HM13.o.below hb14
 have hI := HIO.o w14 u (hu.1.base nZ) (HTB.o _ (bl_trans HBw3.o HD14.o)) hs
 clear lr hT4 hu hs hb14 HD13 HM13 HBw13 HTO HIO
 go_wp2_with fail
 refine hI.mono ?_
 rintro r w15 ⟨ah, ch, rfl, hN15, hb15⟩
 have HD15 : Hd (Bl w3 w15) := bl_trans HD14.o hb15
 have HM15 : Hd (Marked w15 ag L.length 1) := HM14.o.below hb15
 have HH15 : Hd (Bs w15 ah L.length L) := hN15.bs
 clear hI hN15 hb15 HD14 HM14
 go_wp2_with fail
 refine (eqByteS_any ah a0 L.length L.length ch cp0 L L _ HH15.o (HV3.o.below HD15.o)).mono ?_
 rintro r w16 ⟨rfl, q16, rfl⟩
 have HD16 : Hd (Bl w3 (w15.drewN q16)) := bl_trans HD15.o (bl_drewN q16)
 have HM16 : Hd (Marked (w15.drewN q16) ag L.length 1) := HM15.o.below (bl_drewN q16)
 clear HD15 HM15 HH15
 generalize w15.drewN q16 = w16 at *
 go_wp2_with fail
 refine (held_any ag L.length cg 1 _ HM16.o (by omega) (by omega) (by omega)).mono ?_
 rintro r w16' ⟨rfl, rfl⟩
 go_wp2_with fail
 go_ret
 exact ⟨rfl, bl_trans HBw3.o HD16.o⟩
open Go.ChangeShapes Go.WideShapes Go.ChangeAt Go.RowKit Go.Joins
theorem door_metQueryText (os : Os) (args : Array Value) : laidMetH Tryz.prog Rows.fnExactQueryTextRow.laid ((World.doorLaid Tryz.prog 24 os).forCall (fun _ _ => 0) ⟨#[], args, []⟩).memory :=
 laidMetH_of_parts3 (fuel := 8) (laidMet_of_run' 8 (by kernel_rfl) (by kernel_rfl)) (by kernel_rfl) (by kernel_rfl)
theorem Tryz.cells259 : Tryz.prog.cellsOf 259 = 1 := by kernel_rfl
theorem tab_of_laid {W : World} (h : laidMetH Tryz.prog Rows.fnExactQueryTextRow.laid W) : Tab W := by
 rw [MakeChecks.laidMetH_plain _ _ _ (by kernel_rfl)] at h
 exact Lib.tabIs_of_head (k := .u64) (zs := Lib.pow10Tab) (rest := []) (g := 1) (t := 268) (n := 20) (by kernel_rfl) (by kernel_rfl) (by kernel_rfl) Tryz.underlying259 Tryz.cells259 (by kernel_rfl) (laidMet.tail (laidMet.tail h))
theorem liftedQueryText (os : Os) (started : os.Started) (H : Type) (enc : TypeId × Value → H) :
 ReturnsInHanded {} Tryz.checked os 5 .any (fun w args => (Rows.fnExactQueryTextSpec.pre enc Tryz.prog Tryz.f5 [] false w args ∧ laidMetH Tryz.prog Rows.fnExactQueryTextRow.laid w) ∧ sizedMet enc Tryz.prog Tryz.f5 (OpenSpec.ofChange Rows.fnExactQueryTextSpec) false w args)
  (Rows.fnExactQueryTextSpec.post enc Tryz.prog Tryz.f5 false true false false) := by
 refine returnsInHanded_of_change_and (C := Tryz.checked) (X := fun w _ => laidMetH Tryz.prog Rows.fnExactQueryTextRow.laid w) (fun _ _ _ hh h => h.of_heap hh) own started (by kernel_rfl) Tryz.func5
  (ChangeSpec.witness_shaped (enc := enc) (C := Tryz.checked) (os := os) (X := fun w _ => laidMetH Tryz.prog Rows.fnExactQueryTextRow.laid w) false (World.doorLaid Tryz.prog 24 os) #[.agg #[.bool false, .bool false, .slice none 0 0, .slice none 0 0, .slice none 0 0, .slice none 0 0, .int .i64 0, .int .i64 0]] 8 rfl (World.shaped_of_RefB (by kernel_rfl) (by kernel_rfl)) (by kernel_rfl) (by kernel_rfl) (by kernel_rfl) (door_metQueryText os _)) ?_
 intro W base args ds gs before hval0 hW _ _ hL _
 have hval : ∀ (j : Nat) t v, Tryz.f5.params[j]? = some t → args[j]? = some v → Value.okWide Tryz.prog W .any base t v := hval0
 have hW' := hW
 obtain ⟨p, q, hA0, hV, rfl, hfz, hnd⟩ := hW
 have hA : DataW.TrodAll enc Tryz.prog W 0 (fun _ => true) true Tryz.f5.params.toList args.toList ds p := hA0
 rw [Tryz.params5] at hA hval
 obtain ⟨v0, vs0, d0, ds0, p0, q0, hargs, rfl, rfl, h0, r0⟩ := trodAll_cons hA
 obtain ⟨rfl, rfl, rfl⟩ := trodAll_nil r0
 obtain rfl : args = #[v0] := by cases args; simp_all
 obtain ⟨rfl, rfl⟩ := trodVars_none hV
 have k0 := h0
 have lt0 : ∀ x ∈ p0, x.block < W.heap.size := by obtain ⟨m, hm⟩ := k0; exact DataW.trod_lt m _ _ _ hm
 obtain ⟨t0, rfl, hc⟩ := open_query (hval 0 27 v0 rfl rfl) h0
 clear hA0 hval0
 refine (walkQueryText t0 W hc (tab_of_laid hL)).mono fun e W' ⟨he, bel⟩ => ?_
 subst he
 exact ⟨_, rfl, _, _, _, [], _, [], hW', trodAll_mk1 (shut_bool Tryz.underlying4 _), (trodAll_cons_mk (Below.trod laidOut (by kernel_rfl) (of_decide_eq_true (by kernel_rfl)) k0 bel lt0) trodAll_mk0), rfl, bel.frame _, fun h => by cases h⟩
theorem overQueryText : Rows.FnExactQueryTextSaid :=
 OpenClaim.holds_of_wide 5 Tryz.f5 rfl rfl rfl rfl rfl rfl rfl ⟨rfl, rfl, rfl, rfl, rfl⟩ rfl rfl rfl rfl rfl (by kernel_rfl) Tryz.func5 (by kernel_rfl)
  (of_decide_eq_true (by kernel_rfl)) (by unfold Func.isWrapper; first | (rw [if_pos (by decide +kernel)]; kernel_rfl) | (rw [if_neg (by decide +kernel)]; exact ⟨rfl, rfl⟩))
  (fun os started H enc _ => liftedQueryText os started H enc)
theorem provedQueryText : Rows.FnExactQueryTextCardSaid :=
 Claim7.holds_tied_plain_at .later [] [.data, .data, .data] true Rows.fnExactQueryTextCard.stood.harness false
  overQueryText (fun _ h => by cases h) (by kernel_rfl) (fun _ h => by cases h) fnExactQueryText_row_tie rfl ⟨rfl, rfl⟩ (by kernel_rfl) rfl
  (fun f fn hf hfn => by
   obtain rfl : f = 5 := Option.some.inj ((show Tryz.prog.funcNamed Rows.fnExactQueryTextRow.func = some 5 by kernel_rfl).symm.trans hf) |>.symm
   obtain rfl : fn = Tryz.f5 := (Option.some.inj (Tryz.func5.symm.trans hfn)).symm
   exact ⟨by kernel_rfl, fun j t ht => by
    rw [Tryz.params5] at ht
    have hm : t ∈ [27] := by simpa using Array.mem_of_getElem? ht
    have hall : ([27].all fun u => !Tryz.prog.wantsStandIn u) = true := by kernel_rfl
    exact (show Tryz.prog.wantsStandIn t = false by simpa using List.all_eq_true.1 hall t hm)⟩)
  (by kernel_rfl)
#print axioms provedQueryText
end Go.Proofs.YthljoojcpbignaaGreatDoor
