/- FnStores: what is known behind StoreOf, and what the calls answer there. -/
import Derived.Test.YtobnpfcgcoooeaaGreatDoorMk39
import Derived.Test.YtobnpfcgcoooeaaGreatDoorMk42
import Derived.Test.YtobnpfcgcoooeaaGreatDoorMk43
import Derived.Test.YtobnpfcgcoooeaaGreatDoorMk28
namespace Go.Proofs.YtobnpfcgcoooeaaGreatDoor
open Go.RowKit Go.Deep
set_option maxRecDepth 100000

/-- What lies in memory behind StoreOf: the graph in its box, the store in its box. -/
structure SW (W : World) (pg ps : Nat) (a : Option Addr) (n cap : Nat) (T U V : Nat → Tm) (bt bu bv : Nat → List Int) (aT : Option Addr) (nT capT : Nat) (aR : Option Addr) (nR capR : Nat) (r : List TB) (rbs : List RB) : Prop where
  bg : W.cell? ⟨pg, 0, none⟩ = some (.slice a n cap)
  b0 : W.cell? ⟨ps, 0, none⟩ = some (.slice aT nT capT)
  b1 : W.cell? ⟨ps, 1, none⟩ = some (.slice aR nR capR)
  lg : pg < W.heap.size
  ls : ps < W.heap.size
  rows : Rows W a n T U V
  x1 : Texts W n T bt
  x2 : Texts W n U bu
  x3 : Texts W n V bv
  arg : SArg W aT r aR rbs
  tab : Tab W
theorem SW.below {W W' : World} {pg ps : Nat} {a : Option Addr} {n cap : Nat} {T U V : Nat → Tm} {bt bu bv : Nat → List Int} {aT : Option Addr} {nT capT : Nat} {aR : Option Addr} {nR capR : Nat} {r : List TB} {rbs : List RB} (h : SW W pg ps a n cap T U V bt bu bv aT nT capT aR nR capR r rbs) (hb : Below W.heap.size W W') : SW W' pg ps a n cap T U V bt bu bv aT nT capT aR nR capR r rbs :=
  ⟨(hb.cell (p := ⟨pg, 0, none⟩) h.lg).trans h.bg, (hb.cell (p := ⟨ps, 0, none⟩) h.ls).trans h.b0, (hb.cell (p := ⟨ps, 1, none⟩) h.ls).trans h.b1, Nat.lt_of_lt_of_le h.lg hb.size, Nat.lt_of_lt_of_le h.ls hb.size, h.rows.below hb, h.x1.below hb, h.x2.below hb, h.x3.below hb, h.arg.below hb, h.tab.below hb⟩

/-- What is known of the graph and the store as data. -/
structure SP (n : Nat) (T U V : Nat → Tm) (bt bu bv : Nat → List Int) (r : List TB) (rbs : List RB) : Prop where
  gd : GD n T U V bt bu bv (r.map TB.td)
  fit : AllFit n T U V
  len6 : rbs.length = 6
  row : ∀ i x, rbs[i]? = some x → RowsOf i (gRows (r.map TB.td) T U V bt bu bv n) x.l
  cap : ∀ x ∈ rbs, x.l.length ≤ x.cap
  good : ∀ y ∈ r, y.good
theorem SP.store {n : Nat} {T U V : Nat → Tm} {bt bu bv : Nat → List Int} {r : List TB} {rbs : List RB} (h : SP n T U V bt bu bv r rbs) : Good r (rbs.map RB.l) :=
  h.gd.store (by simpa using h.len6) fun i l hl => by
    rw [List.getElem?_map] at hl
    obtain ⟨x, hx, rfl⟩ := Option.map_eq_some_iff.1 hl
    exact h.row i x hx
theorem SP.at {n : Nat} {T U V : Nat → Tm} {bt bu bv : Nat → List Int} {r : List TB} {rbs : List RB} (h : SP n T U V bt bu bv r rbs) {o : Nat} (ho : o < 6) : ∃ x, rbs[o]? = some x ∧ x ∈ rbs ∧ x.l.length = n := by
  have hl : o < rbs.length := by rw [h.len6]; exact ho
  have e : rbs[o]? = some rbs[o] := List.getElem?_eq_getElem hl
  exact ⟨_, e, List.mem_of_getElem? e, by rw [(h.row o _ e).perm.length_eq, gRows_len]⟩
/-- The row of a triple. -/
def row3 (D : List TD) (T U V : Nat → Tm) (bt bu bv : Nat → List Int) (i : Nat) : Int × Int × Int := ((idOf D (tdS T bt i) : Int), (idOf D (tdS U bu i) : Int), (idOf D (tdS V bv i) : Int))
theorem SP.scan {n : Nat} {T U V : Nat → Tm} {bt bu bv : Nat → List Int} {r : List TB} {rbs : List RB} (h : SP n T U V bt bu bv r rbs) {o : Nat} (ho : o < 6) {ks : List Int} {L : List (Int × Int × Int)} (hk : ks.length ≤ 3) (hL : ScanAns r (rbs.map RB.l) o ks L) : ∃ x, rbs[o]? = some x ∧ x ∈ rbs ∧ x.l.length = n ∧ L = scanL o ks x.l := by
  obtain ⟨x, hx, hm, hl⟩ := h.at ho
  rcases hL with ⟨_, _, _, _, l, hl', rfl⟩ | ⟨hn, _⟩
  · rw [List.getElem?_map, Int.toNat_natCast, hx] at hl'
    cases hl'
    exact ⟨x, hx, hm, hl, rfl⟩
  · exact absurd ⟨h.store, by omega, by omega, hk⟩ hn
theorem SP.all {n : Nat} {T U V : Nat → Tm} {bt bu bv : Nat → List Int} {r : List TB} {rbs : List RB} (h : SP n T U V bt bu bv r rbs) {o : Nat} (ho : o < 6) {L : List (Int × Int × Int)} (hL : ScanAns r (rbs.map RB.l) o [] L) : L.length = n := by
  obtain ⟨x, _, _, hl, rfl⟩ := h.scan ho (by simp) hL
  rw [scan_none]
  exact hl
theorem SP.one {n : Nat} {T U V : Nat → Tm} {bt bu bv : Nat → List Int} {r : List TB} {rbs : List RB} (h : SP n T U V bt bu bv r rbs) {o i : Nat} (ho : o < 6) (hi : i < n) {L : List (Int × Int × Int)} {k0 k1 k2 : Int} (hk : (k0, k1, k2) = rkey o (row3 (r.map TB.td) T U V bt bu bv i)) (hL : ScanAns r (rbs.map RB.l) o [k0, k1, k2] L) : L = [row3 (r.map TB.td) T U V bt bu bv i] := by
  obtain ⟨x, hx, _, _, rfl⟩ := h.scan ho (by simp) hL
  have hp := (h.row o x hx).perm
  have hnd : x.l.Nodup := hp.nodup_iff.2 (h.gd.pw.imp fun {x y} hxy e => by
    subst e
    have := (ord_rcmp 0).self x
    omega)
  have hmem : row3 (r.map TB.td) T U V bt bu bv i ∈ x.l := hp.mem_iff.2 (List.mem_of_getElem? (gRows_at hi))
  have e0 : k0 = (rkey o (row3 (r.map TB.td) T U V bt bu bv i)).1 := by rw [← hk]
  have e1 : k1 = (rkey o (row3 (r.map TB.td) T U V bt bu bv i)).2.1 := by rw [← hk]
  have e2 : k2 = (rkey o (row3 (r.map TB.td) T U V bt bu bv i)).2.2 := by rw [← hk]
  rw [e0, e1, e2]
  exact scan_one hnd hmem
/-- A term of the graph has a number, from 1 on; the store's term there is the same. -/
theorem SP.num {n : Nat} {T U V : Nat → Tm} {bt bu bv : Nat → List Int} {r : List TB} {rbs : List RB} (h : SP n T U V bt bu bv r rbs) {x : TD} (hx : x ∈ r.map TB.td) : ∃ j y, r[j]? = some y ∧ j < r.length ∧ y.td = x ∧ idOf (r.map TB.td) x = j + 1 := by
  obtain ⟨j, hj, e, e2⟩ := idOf_mem h.gd.tm.asc hx
  have hj' : j < r.length := by simpa using hj
  refine ⟨j, r[j], List.getElem?_eq_getElem hj', hj', ?_, e2⟩
  rw [← e]
  simp

theorem ownRR_zero {w : World} {B : Nat} {p : Addr} {n c : Nat} {l : List (Int × Int × Int)} (h : OwnRR w B (.slice (some p) n c) l) : ∃ g, p = ⟨g, 0, none⟩ := by
  rcases h.1.2 with ⟨e, _⟩ | ⟨g, cap, cur, e, _⟩
  · cases e
  · cases e
    exact ⟨g, rfl⟩
/-- Calls behind StoreOf. -/
theorem SW.scan0 {W : World} {pg ps : Nat} {a : Option Addr} {n cap : Nat} {T U V : Nat → Tm} {bt bu bv : Nat → List Int} {aT : Option Addr} {nT capT : Nat} {aR : Option Addr} {nR capR : Nat} {r : List TB} {rbs : List RB} (h : SW W pg ps a n cap T U V bt bu bv aT nT capT aR nR capR r rbs) (hT : nT = r.length) (hR : nR = rbs.length) (hp : SP n T U V bt bu bv r rbs) (o : Nat) (ho : o < 6) :
    Calls Tryz.prog 9 #[.agg #[.slice aT nT capT, .slice aR nR capR], .int .i64 o, .slice none 0 0] W (fun e w' => (∃ b c, e = .returned (.slice b n c)) ∧ Below W.heap.size W w') := by
  rw [hT, hR]
  refine (implScan_any aT aR capT capR r rbs o none 0 [] W h.arg hp.cap (by simp) (.inl rfl) h.tab).mono ?_
  rintro e w' ⟨b, c, L, rfl, hL, _, _, hb⟩
  exact ⟨⟨b, c, by rw [hp.all ho hL]⟩, hb⟩
theorem SW.scan3 {W : World} {pg ps : Nat} {a : Option Addr} {n cap : Nat} {T U V : Nat → Tm} {bt bu bv : Nat → List Int} {aT : Option Addr} {nT capT : Nat} {aR : Option Addr} {nR capR : Nat} {r : List TB} {rbs : List RB} (h : SW W pg ps a n cap T U V bt bu bv aT nT capT aR nR capR r rbs) (hT : nT = r.length) (hR : nR = rbs.length) (hp : SP n T U V bt bu bv r rbs) (o : Nat) (ho : o < 6) (i : Nat) (hi : i < n) (g c : Nat) (k0 k1 k2 : Int) (hk : (k0, k1, k2) = rkey o (row3 (r.map TB.td) T U V bt bu bv i)) (hg : g < W.heap.size) (c0 : W.cell? ⟨g, 0, none⟩ = some (.int .i64 k0)) (c1 : W.cell? ⟨g, 1, none⟩ = some (.int .i64 k1)) (c2 : W.cell? ⟨g, 2, none⟩ = some (.int .i64 k2)) :
    Calls Tryz.prog 9 #[.agg #[.slice aT nT capT, .slice aR nR capR], .int .i64 o, .slice (some ⟨g, 0, none⟩) 3 c] W (fun e w' => (∃ b c, e = .returned (.slice (some ⟨b, 0, none⟩) 1 c) ∧ b < w'.heap.size ∧ w'.cell? ⟨b, 0, none⟩ = some (.int .i64 (row3 (r.map TB.td) T U V bt bu bv i).1) ∧ w'.cell? ⟨b, 1, none⟩ = some (.int .i64 (row3 (r.map TB.td) T U V bt bu bv i).2.1) ∧ w'.cell? ⟨b, 2, none⟩ = some (.int .i64 (row3 (r.map TB.td) T U V bt bu bv i).2.2)) ∧ Below W.heap.size W w') := by
  rw [hT, hR]
  have hKI : KIn W (some ⟨g, 0, none⟩) [k0, k1, k2] := .inr ⟨g, 0, rfl, hg, fun j hj => by
    have hj3 : j < 3 := hj
    rw [Nat.zero_add]
    rcases (by omega : j = 0 ∨ j = 1 ∨ j = 2) with rfl | rfl | rfl
    · exact c0
    · exact c1
    · exact c2⟩
  refine (implScan_any aT aR capT capR r rbs o (some ⟨g, 0, none⟩) c [k0, k1, k2] W h.arg hp.cap (by simp) hKI h.tab).mono ?_
  rintro e w' ⟨b, c', L, rfl, hL, hO, _, hb⟩
  have e1 := hp.one ho hi hk hL
  subst e1
  obtain ⟨a1, c1, e2, hrr, _⟩ := hO.form
  simp only [Value.slice.injEq] at e2
  obtain ⟨e3, -, -⟩ := e2
  subst e3
  obtain ⟨q, off, rfl, hq, d0, d1, d2⟩ := hrr.at3 (i := 0) (x := row3 (r.map TB.td) T U V bt bu bv i) rfl
  obtain ⟨g', hg'⟩ := ownRR_zero hO
  cases hg'
  simp only [Nat.zero_mul, Nat.zero_add, Nat.add_zero] at d0 d1 d2
  exact ⟨⟨q, c', rfl, hq, d0, d1, d2⟩, hb⟩
theorem SW.id {W : World} {pg ps : Nat} {a : Option Addr} {n cap : Nat} {T U V : Nat → Tm} {bt bu bv : Nat → List Int} {aT : Option Addr} {nT capT : Nat} {aR : Option Addr} {nR capR : Nat} {r : List TB} {rbs : List RB} (h : SW W pg ps a n cap T U V bt bu bv aT nT capT aR nR capR r rbs) (hT : nT = r.length) (hR : nR = rbs.length) (hp : SP n T U V bt bu bv r rbs) (t : Tm) (b : List Int) (hf : t.fits) (hb : Bs W t.a t.len b) (hm : (TB.mk t b).td ∈ r.map TB.td) (k : Int) (hk : k = (idOf (r.map TB.td) (TB.mk t b).td : Nat)) :
    Calls Tryz.prog 10 #[.agg #[.slice aT nT capT, .slice aR nR capR], .agg #[.int .i64 t.k, .slice t.a t.len t.cap, .int .i64 t.n, .int .i64 t.s]] W (fun e w' => e = .returned (.int .i64 k) ∧ Below W.heap.size W w') := by
  rw [hT, hR, hk]
  refine (implIdOf_any aT aR capT capR r rbs ⟨t, b⟩ W h.arg hf hb h.tab).mono ?_
  rintro e w' ⟨q, rfl, h1, _, hw⟩
  exact ⟨by rw [h1 ⟨hp.store, (hp.gd.good _ hm).1⟩], hw⟩
theorem SW.ok {W : World} {pg ps : Nat} {a : Option Addr} {n cap : Nat} {T U V : Nat → Tm} {bt bu bv : Nat → List Int} {aT : Option Addr} {nT capT : Nat} {aR : Option Addr} {nR capR : Nat} {r : List TB} {rbs : List RB} (h : SW W pg ps a n cap T U V bt bu bv aT nT capT aR nR capR r rbs) (hT : nT = r.length) (hR : nR = rbs.length) (hp : SP n T U V bt bu bv r rbs) :
    Calls Tryz.prog 7 #[.agg #[.slice aT nT capT, .slice aR nR capR]] W (fun e w' => e = .returned (.bool true) ∧ Below W.heap.size W w') := by
  rw [hT, hR]
  refine (implStoreOk_any aT aR capT capR r rbs W h.arg h.tab).mono ?_
  rintro e w' ⟨q, rfl, h1, hw⟩
  exact ⟨by rw [h1.2 hp.store], hw⟩
/-- A term of the store lies in its cells. -/
theorem SW.tcells {W : World} {pg ps : Nat} {a : Option Addr} {n cap : Nat} {T U V : Nat → Tm} {bt bu bv : Nat → List Int} {aT : Option Addr} {nT capT : Nat} {aR : Option Addr} {nR capR : Nat} {r : List TB} {rbs : List RB} (h : SW W pg ps a n cap T U V bt bu bv aT nT capT aR nR capR r rbs) {j : Nat} {y : TB} (hy : r[j]? = some y) : ∃ b off, aT = some ⟨b, off, none⟩ ∧ b < W.heap.size ∧ W.cell? ⟨b, off + j * 4, none⟩ = some (.int .i64 y.t.k) ∧ W.cell? ⟨b, off + j * 4 + 1, none⟩ = some (.slice y.t.a y.t.len y.t.cap) ∧ W.cell? ⟨b, off + j * 4 + 2, none⟩ = some (.int .i64 y.t.n) ∧ W.cell? ⟨b, off + j * 4 + 3, none⟩ = some (.int .i64 y.t.s) := by
  rcases h.arg.trow with e | ⟨b, off, e, hl, hc⟩
  · rw [e] at hy
    cases hy
  · obtain ⟨hj, hjy⟩ := List.getElem?_eq_some_iff.1 hy
    have h4 := TRow.at hc j hj
    rw [hjy] at h4
    exact ⟨b, off, e, hl, h4⟩
/-- Neighbours of the store's terms. -/
theorem SW.cmp {W : World} {pg ps : Nat} {a : Option Addr} {n cap : Nat} {T U V : Nat → Tm} {bt bu bv : Nat → List Int} {aT : Option Addr} {nT capT : Nat} {aR : Option Addr} {nR capR : Nat} {r : List TB} {rbs : List RB} (h : SW W pg ps a n cap T U V bt bu bv aT nT capT aR nR capR r rbs) (hp : SP n T U V bt bu bv r rbs) {j : Nat} {x y : TB} (hx : r[j]? = some x) (hy : r[j + 1]? = some y) :
    Calls Tryz.prog 8 #[.agg #[.int .i64 x.t.k, .slice x.t.a x.t.len x.t.cap, .int .i64 x.t.n, .int .i64 x.t.s], .agg #[.int .i64 y.t.k, .slice y.t.a y.t.len y.t.cap, .int .i64 y.t.n, .int .i64 y.t.s]] W (fun e w' => e = .returned (.int .i64 (-1)) ∧ Below W.heap.size W w') := by
  have mx := List.mem_of_getElem? hx
  have my := List.mem_of_getElem? hy
  have gx := hp.good x mx
  have gy := hp.good y my
  have fx := TB.fits gx
  have fy := TB.fits gy
  refine (specCompare_oo x.t.k x.t.n x.t.s y.t.k y.t.n y.t.s x.t.a y.t.a x.t.len x.t.cap y.t.len y.t.cap x.b y.b W (h.arg.ttxt x mx) (h.arg.ttxt y my) fx.1 fx.2.1 fy.1 fy.2.1 gx.1 gy.1).mono ?_
  rintro e w' ⟨rfl, hw⟩
  refine ⟨?_, hw⟩
  have e1 : cmpT (termOk x.t.k x.b x.t.n x.t.s) (termOk y.t.k y.b y.t.n y.t.s) (cmp3 (cmpI x.t.k y.t.k) (cmpB x.b y.b) (cmpN x.t.n x.t.s.toNat y.t.n y.t.s.toNat)) = x.td.cmp y.td := TD.cT_good (x := x.td) (y := y.td) gx gy
  rw [e1]
  obtain ⟨hj1, e2⟩ := List.getElem?_eq_some_iff.1 hx
  obtain ⟨hj2, e3⟩ := List.getElem?_eq_some_iff.1 hy
  have h3 := List.pairwise_iff_getElem.1 hp.gd.tm.asc j (j + 1) (by simpa using hj1) (by simpa using hj2) (by omega)
  simp only [List.getElem_map, e2, e3] at h3
  rcases ord_cmp.rng x.td y.td with h4 | h4 | h4
  · rw [h4]
  · omega
  · omega
end Go.Proofs.YtobnpfcgcoooeaaGreatDoor
