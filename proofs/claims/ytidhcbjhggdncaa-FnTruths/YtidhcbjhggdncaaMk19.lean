/- Texts put together: TvV -/
import Derived.Test.YtidhcbjhggdncaaMk18
/- TvV -/
namespace Go.Proofs.Ytidhcbjhggdncaa
open Go.RowKit Go.Deep
set_option maxRecDepth 100000

theorem results_cell3 {P : Program} {fn : Func} {tmps : Array Value} {w : World} {a b c : Nat} {t t' : TypeId} {ad ad' : Addr} {v u v' : Value} (hf : fn.results = #[.cell a t, .tmp b, .cell c t']) (ht : tmps.getD a undef = .pointer (some ad)) (hq : tmps.getD b undef = u) (ht' : tmps.getD c undef = .pointer (some ad')) (hl : (loadVar t ad).run P w = .ok v w) (hl' : (loadVar t' ad').run P w = .ok v' w) : (results fn tmps).run P w = .ok (.tuple #[v, u, v']) w := by
  have h2 : tmps[a]?.getD undef = .pointer (some ad) := by simpa using ht
  have h3 : tmps[b]?.getD undef = u := by simpa using hq
  have h4 : tmps[c]?.getD undef = .pointer (some ad') := by simpa using ht'
  simp [results, hf, h2, h3, h4, asAddr, hl, hl']
theorem DV.upper {w W W' : World} {g b6 b8 : Nat} {a : Option Addr} {len cap : Nat} {e : ET} {va : Option Addr} {vn vc : Nat} {var : Nat → SL} {s : SO} (h : DV w W g b6 b8 a len cap e va vn vc var s) (hu : Upper (g + 1) W W') : e.lies (g + 1) W' ∧ (KRow (g + 1) W' 1 va vn (fun i => (var i).cells) ∧ (∀ i, i < vn → (var i).lies (g + 1) W') ∧ vn ≤ 1048576) ∧ s.lies (g + 1) W' :=
  ⟨ET.lies.upper hu h.el, ⟨h.vl.1.upper hu, fun i hi => SL.lies.upper (h.vl.2.1 i hi) hu, h.vl.2.2⟩, h.sl.upper hu⟩
theorem DV.past {w W W' : World} {g b6 b8 : Nat} {a : Option Addr} {len cap : Nat} {e : ET} {va : Option Addr} {vn vc : Nat} {var : Nat → SL} {s : SO} (h : DV w W g b6 b8 a len cap e va vn vc var s) (hp : Past g W W') : DV w W' g b6 b8 a len cap e va vn vc var s := by
  obtain ⟨h1, h2, h3⟩ := h.upper (hp.upper (Nat.lt_succ_self _))
  have hg := h.gt
  exact ⟨h.bl.trans (hp.below (by omega) h.bl.size), h.r2.past hp (by omega), h.r4.past hp (by omega), h.x6.past hp (by omega), h.x8.past hp (by omega), hg, h1, h.lv, h2, h3⟩
theorem dv_end {w W : World} {g b6 b8 : Nat} {a : Option Addr} {len cap : Nat} {e : ET} {va : Option Addr} {vn vc : Nat} {var : Nat → SL} {s : SO} (h : DV w W g b6 b8 a len cap e va vn vc var s) (c1 c2 : List Value) :
    ValueDrawn w (.returned (.tuple #[.agg #[.int .i64 e.d.k, .int .i64 e.d.op, .slice e.d.v.a e.d.v.len e.d.v.cap, .int .i64 e.d.t.t.k, .slice e.d.t.t.a e.d.t.t.len e.d.t.t.cap, .int .i64 e.d.t.t.n, .int .i64 e.d.t.t.s, .slice e.d.ka e.d.n e.d.kc], .slice va vn vc, .agg #[.slice s.a s.n s.cap]])) ((W.setCells w.heap.size 0 c1).setCells (w.heap.size + 1) 0 c2) := by
  have hg := h.gt
  have hu : Upper (g + 1) W ((W.setCells w.heap.size 0 c1).setCells (w.heap.size + 1) 0 c2) := ((upper_sets w.heap.size c1 0 W).mono (by omega)).trans ((upper_sets (w.heap.size + 1) c2 0 _).mono (by omega))
  obtain ⟨h1, h2, h3⟩ := h.upper hu
  exact ⟨e, ⟨va, vc, vn, var, s⟩, rfl, h1.base (Nat.zero_le _), h.lv, ⟨h2.1.base (Nat.zero_le _), fun i hi => SL.lies.base (h2.2.1 i hi) (Nat.zero_le _), h2.2.2, h3.base (Nat.zero_le _)⟩, below_sets _ (Nat.le_succ _) _ _ _ (below_sets _ (Nat.le_refl _) _ _ _ h.bl)⟩
/-- What has been drawn is where it was, though the boxes are written. -/
structure DU (g b6 : Nat) (w2 w4 w5 W : World) : Prop where
  u2 : Upper (g + 1) w2 W
  u4 : Upper (b6 + 1) w4 W
  u5 : Upper (b6 + 1) w5 W
theorem DU.past {g b6 : Nat} {w2 w4 w5 W W' : World} (h : DU g b6 w2 w4 w5 W) (hp : Past g W W') (hg : g < b6) : DU g b6 w2 w4 w5 W' := ⟨h.u2.trans (hp.upper (Nat.lt_succ_self _)), h.u4.trans (hp.upper (by omega)), h.u5.trans (hp.upper (by omega))⟩
theorem S3c.base {w : World} {B B' G : Nat} {f : Nat → CB} (h : S3c w B G f) (hB : B' ≤ B) : S3c w B' G f := ⟨Nat.le_trans hB h.lo, h.ob, fun j hj => (h.tx j hj).base hB⟩
theorem three_at (f : Nat → CB) (i c : Nat) (u : Value) (hi : i < 3) (hu : (f i).cells[c]? = some u) : ((f 0).cells ++ ((f 1).cells ++ (f 2).cells))[i * 5 + c]? = some u := by
  have hl : ∀ j, (f j).cells.length = 5 := fun _ => rfl
  have hc : c < 5 := by have h := (List.getElem?_eq_some_iff.1 hu).1; rwa [hl] at h
  rcases (by omega : i = 0 ∨ i = 1 ∨ i = 2) with rfl | rfl | rfl
  · rw [List.getElem?_append_left (by rw [hl]; omega), Nat.zero_mul, Nat.zero_add]
    exact hu
  · rw [List.getElem?_append_right (by rw [hl]; omega), hl, List.getElem?_append_left (by rw [hl]; omega), show 1 * 5 + c - 5 = c by omega]
    exact hu
  · rw [List.getElem?_append_right (by rw [hl]; omega), hl, List.getElem?_append_right (by rw [hl]; omega), hl, show 2 * 5 + c - 5 - 5 = c by omega]
    exact hu
theorem S3c.so {w : World} {B G : Nat} {f : Nat → CB} (h : S3c w B G f) : (⟨some ⟨G, 0, none⟩, 3, 3, f⟩ : SO).lies B w := by
  refine ⟨.inr ⟨G, 0, rfl, h.lo, h.ob.1, fun i hi c u hu => ?_⟩, fun i hi => h.tx i hi, by show 3 ≤ 1048576; decide⟩
  rw [Nat.zero_add]
  exact (h.ob.2 _ u (three_at f i c u hi hu)).1
theorem S3c.so2 {w : World} {B G : Nat} {f : Nat → CB} (h : S3c w B G f) : (⟨some ⟨G, 5, none⟩, 2, 2, fun i => f (i + 1)⟩ : SO).lies B w := by
  refine ⟨.inr ⟨G, 5, rfl, h.lo, h.ob.1, fun i hi c u hu => ?_⟩, fun i hi => h.tx (i + 1) (by have : i < 2 := hi; omega), by show 2 ≤ 1048576; decide⟩
  rw [show 5 + i * 5 + c = (i + 1) * 5 + c by omega]
  exact (h.ob.2 _ u (three_at f (i + 1) c u (by have : i < 2 := hi; omega) hu)).1
theorem Upper.but_new {B g : Nat} {w W W' : World} (h : Upper B w W) (hb : But g W W') (hg : w.heap.size ≤ g) : Upper B w W' := ⟨by rw [hb.size]; exact h.size, fun b h1 h2 => (hb.block b (by omega)).trans (h.block b h1 h2)⟩
theorem BTx.bsfB {w : World} {B B' : Nat} {a : Option Addr} {len cap : Nat} {bs : List Int} (h : BTx w B a len bs) (hB : B' ≤ B) : BsF B' w ⟨a, len, cap, bs⟩ := by
  refine ⟨h.1, ?_⟩
  rcases h.2 with h0 | ⟨g, ha, hg, _⟩
  · exact .inl h0
  · exact .inr fun p hp => by
      have e : some p = some ⟨g, 0, none⟩ := hp.symm.trans ha
      cases e
      exact Nat.le_trans hB hg
theorem S3c.putT {w : World} {B G : Nat} {f : Nat → CB} (h : S3c w B G f) (t : TB) (ht : BsF B w t.sl) (hf : t.t.fits) : S3c (w.setCells G 1 [.int .i64 t.t.k, .slice t.t.a t.t.len t.t.cap, .int .i64 t.t.n, .int .i64 t.t.s]) B G (fun j => if j = 0 then ⟨(f 0).has, t⟩ else f j) := by
  have hkind : ∀ c, 1 ≤ c → c < 1 + 4 → ∃ u, ((f 0).cells ++ ((f 1).cells ++ (f 2).cells))[c]? = some u ∧ ∀ z, u ≠ .int .u8 z := fun c _ h2 => three_kind _ _ _ c (by omega)
  have tx : ∀ y : SL, BsF B w y → BsF B (w.setCells G 1 [.int .i64 t.t.k, .slice t.t.a t.t.len t.t.cap, .int .i64 t.t.n, .int .i64 t.t.s]) y := fun y hy => ⟨Bs.sets _ _ hy.1 h.ob hkind, hy.2⟩
  refine ⟨h.lo, ?_, fun j hj => ?_⟩
  · have ho := h.ob.sets [.int .i64 t.t.k, .slice t.t.a t.t.len t.t.cap, .int .i64 t.t.n, .int .i64 t.t.s] 1
    exact ho
  · show CB.lies B _ (if j = 0 then ⟨(f 0).has, t⟩ else f j)
    split
    · exact ⟨tx _ ht, hf⟩
    · exact ⟨tx _ (h.tx j hj).1, (h.tx j hj).2⟩
theorem owns_cells {w : World} {B n cap sz m : Nat} {t : TypeId} {a : Option Addr} {xs : List Value} (h : w.ownsRow B t sz (.slice a n cap) m xs) : ∀ b, a = some b → ∀ j u, xs[j]? = some u → w.cell? (b.add j) = some u ∧ (b.add j).block < w.heap.size := by
  rintro b rfl j u hu
  rcases h.2 with ⟨hv, _⟩ | ⟨g, c, cur, hv, hB, hh, hle, _, hsz, htk⟩
  · cases hv
  · cases hv
    have hj := (List.getElem?_eq_some_iff.1 hu).1
    rw [h.1] at hj
    rw [← htk, List.getElem?_take, if_pos hj] at hu
    have ea : (⟨g, 0, none⟩ : Addr).add j = ⟨g, j, none⟩ := by unfold Addr.add; simp; exact fun h => h.symm
    rw [ea]
    refine ⟨?_, (Array.getElem?_eq_some_iff.1 hh).1⟩
    simp only [World.cell?, hh]
    simpa using hu
theorem RV.upper {w w' : World} {B : Nat} {v : Value} {L : List SL} (h : RV w B v L) (hu : Upper B w w') : RV w' B v L := h.keep hu.size fun g hg => hu.block g (h.lo g hg).1 (h.lo g hg).2
theorem rv_krow {W : World} {B n cap : Nat} {a : Option Addr} {L : List SL} (h : RV W B (.slice a n cap) L) (ht : ∀ y ∈ L, BsF B W y) : n = L.length ∧ KRow B W 1 a n (fun i => (L[i]?.getD ⟨none, 0, 0, []⟩).cells) ∧ ∀ i, i < n → (L[i]?.getD ⟨none, 0, 0, []⟩).lies B W := by
  obtain ⟨a', cap', e, hf⟩ := h.form
  have hn : n = L.length := by cases e; rfl
  have ha : a = a' := by cases e; rfl
  refine ⟨hn, ?_, fun i hi => ?_⟩
  · rcases hf with rfl | ⟨g, rfl, hB, hlt, hc⟩
    · exact .inl hn
    · refine .inr ⟨g, 0, ha, hB, hlt, fun i hi c u hu => ?_⟩
      obtain ⟨x, hx⟩ : ∃ x, L[i]? = some x := ⟨_, List.getElem?_eq_getElem (by omega)⟩
      simp only [hx, Option.getD_some, SL.cells] at hu
      have hc0 : c = 0 := by
        have h := (List.getElem?_eq_some_iff.1 hu).1
        simp only [List.length_cons, List.length_nil] at h
        omega
      subst hc0
      have hu2 : Value.slice x.a x.len x.cap = u := by simpa using hu
      rw [← hu2, ← hc i x hx]
      simp
  · obtain ⟨x, hx⟩ : ∃ x, L[i]? = some x := ⟨_, List.getElem?_eq_getElem (by omega)⟩
    rw [hx]
    exact ht x (List.mem_of_getElem? hx)
theorem app_stopV {ops : Array Oper} {rest : List Oper} {o : Oper} {a : Act} {Q : Exit → Act → World → Prop} {w : World} (s x : Operand) (t : TypeId) (_ho : o.op = .call { callee := .builtin .append, args := #[s, x], argTypes := #[t, t] }) (h : Hid (wpList Try.prog ops Q (o :: rest) a w)) : wpList Try.prog ops Q (o :: rest) a w := h
theorem infoE8 : (Try.prog.info? 29).map (fun i => (i.zero, i.size, i.bytes)) = some (some (.agg #[.int .i64 0, .int .i64 0, .slice none 0 0, .int .i64 0, .slice none 0 0, .int .i64 0, .int .i64 0, .slice none 0 0]), 8, 112) := by kernel_rfl
theorem one8 {a : Option Addr} : ∀ u ∈ ([.int .i64 0, .int .i64 0, .slice a 1 1, .int .i64 0, .slice none 0 0, .int .i64 0, .int .i64 0, .slice none 0 0] : List Value), u.oneCell' = true := fun u hu => by
  simp only [List.mem_cons, List.not_mem_nil, or_false] at hu
  rcases hu with rfl | rfl | rfl | rfl | rfl | rfl | rfl | rfl <;> rfl
theorem Upper.refl (B : Nat) (w : World) : Upper B w w := ⟨Nat.le_refl _, fun _ _ _ => rfl⟩
theorem Upper.but_low {B g : Nat} {w W W' : World} (h : Upper B w W) (hb : But g W W') (hg : g < B) : Upper B w W' := ⟨by rw [hb.size]; exact h.size, fun b h1 h2 => (hb.block b (by omega)).trans (h.block b h1 h2)⟩
theorem kidE {g : Nat} {w2 W : World} {x : ET} {L : List ET} {g9 cap9 : Nat} {leaf : ET} (hx : x.lies (g + 1) w2) (hu : Upper (g + 1) w2 W) (hlv : lvE x 4) (hL1 : L.length = x.d.n) (hL2 : x.kid = fun i => L[i]?.getD .nil) (h4 : x.d.n ≤ 4)
    (hrow : ∀ j u, (((L ++ [leaf]).map fun e => e.d.cells).flatten)[j]? = some u → W.cell? ⟨g9, j, none⟩ = some u) (hg9 : g + 1 ≤ g9 ∧ g9 < W.heap.size) (hleaf : leaf.lies (g + 1) W) (hll : lvE leaf 3) :
    (ET.mk ⟨x.d.k, x.d.op, x.d.v, x.d.t, some ⟨g9, 0, none⟩, cap9, x.d.n + 1⟩ (fun i => (L ++ [leaf])[i]?.getD .nil)).lies (g + 1) W ∧ lvE (ET.mk ⟨x.d.k, x.d.op, x.d.v, x.d.t, some ⟨g9, 0, none⟩, cap9, x.d.n + 1⟩ (fun i => (L ++ [leaf])[i]?.getD .nil)) 4 := by
  cases x with
  | nil => exact False.elim hx
  | mk d kid =>
    have hk : kid = fun i => L[i]?.getD .nil := hL2
    have h1 : L.length = d.n := hL1
    have h4' : d.n ≤ 4 := h4
    subst hk
    have hat : ∀ i, i < d.n + 1 → ((L ++ [leaf])[i]?.getD .nil).lies (g + 1) W ∧ lvE ((L ++ [leaf])[i]?.getD .nil) 3 := fun i hi => by
      by_cases h : i < L.length
      · rw [List.getElem?_append_left h]
        exact ⟨ET.lies.upper hu (hx.2.2.2.2.2 i (by omega)), hlv.2.2.2 i (by omega)⟩
      · have e : i = L.length := by omega
        subst e
        rw [List.getElem?_append_right (Nat.le_refl _)]
        simp only [Nat.sub_self, List.getElem?_cons_zero, Option.getD_some]
        exact ⟨hleaf, hll⟩
    refine ⟨⟨hx.1.upper hu, hx.2.1.upper hu, hx.2.2.1, by show d.n + 1 ≤ 1048576; omega, .inr ⟨g9, 0, rfl, hg9.1, hg9.2, fun i hi c u hcu => ?_⟩, fun i hi => (hat i hi).1⟩, ⟨by omega, by show d.n + 1 ≤ 5; omega, hlv.2.2.1, fun i hi => (hat i hi).2⟩⟩
    rw [Nat.zero_add]
    exact hrow _ u (flat_at (L ++ [leaf]) i c u (by rw [List.length_append]; show i < L.length + 1; have h : i < d.n + 1 := hi; omega) hcu)
theorem rv_row {W : World} {B H : Nat} (h : RV W B (.slice (some ⟨H + 3, 0, none⟩) 3 3) [varV H 0, varV H 1, varV H 2]) (ht : ∀ y ∈ [varV H 0, varV H 1, varV H 2], BsF B W y) : KRow B W 1 (some ⟨H + 3, 0, none⟩) 3 (fun i => (varV H i).cells) ∧ ∀ i, i < 3 → (varV H i).lies B W := by
  obtain ⟨a, cap, e, hf⟩ := h.form
  rcases hf with h0 | ⟨g, rfl, hB, hlt, hc⟩
  · cases h0
  · have eg : H + 3 = g := by cases e; rfl
    subst eg
    refine ⟨.inr ⟨H + 3, 0, rfl, hB, hlt, fun i hi c u hu => ?_⟩, fun i hi => ?_⟩
    · have hc0 : c = 0 := by
        have h : c < 1 := (List.getElem?_eq_some_iff.1 hu).1
        omega
      subst hc0
      have e1 : u = .slice (varV H i).a (varV H i).len (varV H i).cap := by
        have h2 : (varV H i).cells[0]? = some (.slice (varV H i).a (varV H i).len (varV H i).cap) := rfl
        exact (Option.some.inj (h2.symm.trans hu)).symm
      rw [e1, show 0 + i * 1 + 0 = i by omega]
      rcases (by omega : i = 0 ∨ i = 1 ∨ i = 2) with rfl | rfl | rfl
      · exact hc 0 _ rfl
      · exact hc 1 _ rfl
      · exact hc 2 _ rfl
    · rcases (by omega : i = 0 ∨ i = 1 ∨ i = 2) with rfl | rfl | rfl
      · exact ht _ (by simp)
      · exact ht _ (by simp)
      · exact ht _ (by simp)
set_option maxHeartbeats 3000000 in
theorem DrawValue_any (a : Option Addr) (len cap : Nat) (w : World) (hlen : len ≤ 9223372036854775807) (hC : Code w a len) : Calls Try.prog 5 #[.slice a len cap] w (ValueDrawn w) := by
  have HCD : Hid (∀ W, Below w.heap.size w W → Code W a len) := fun W hb => by
    rcases hC with h | ⟨b, off, ha, hlt, hc⟩
    · exact .inl h
    · refine .inr ⟨b, off, ha, Nat.lt_of_lt_of_le hlt hb.size, fun i hi => ?_⟩
      rw [hb.cell (p := ⟨b, off + i, none⟩) hlt]
      exact hc i hi
  have HN := hid (fun W (hb : Below w.heap.size w W) => l1New_any a len cap W hlen (HCD.out W hb))
  have HDE := hid (fun g W (h : Cur W g a len cap) => drawExpr3 g a len cap W hlen h)
  have HSO := hid (fun g W (h : Cur W g a len cap) => l6sol_three g a len cap W hlen h)
  have O := hid (fun g W (h : Cur W g a len cap) => l1Once_any g a len cap 10 W hlen h (by omega) (by omega))
  have B := hid (fun g W (h : Cur W g a len cap) => l1Below_any g a len cap 4 W hlen h (by omega) (by omega))
  have HBE := hid (fun g W (h : Cur W g a len cap) => l1bent_any g a len cap W hlen h)
  have HB0 : Hid (Below w.heap.size w ((w.alloc (.cells #[.int .i64 0, .int .i64 0, .slice none 0 0, .int .i64 0, .slice none 0 0, .int .i64 0, .int .i64 0, .slice none 0 0] 29)).alloc (.cells #[.slice none 0 0] 32))) := bl_alloc (bl_a _) _
  have HR2 := hid ((OB.new w #[.int .i64 0, .int .i64 0, .slice none 0 0, .int .i64 0, .slice none 0 0, .int .i64 0, .int .i64 0, .slice none 0 0] 29).below (bl_a (.cells #[.slice none 0 0] 32)))
  have HR4 : Hid (OB ((w.alloc (.cells #[.int .i64 0, .int .i64 0, .slice none 0 0, .int .i64 0, .slice none 0 0, .int .i64 0, .int .i64 0, .slice none 0 0] 29)).alloc (.cells #[.slice none 0 0] 32)) (w.heap.size + 1) [.slice none 0 0]) := (show OB _ _ _ by have h := OB.new (w.alloc (.cells #[.int .i64 0, .int .i64 0, .slice none 0 0, .int .i64 0, .slice none 0 0, .int .i64 0, .int .i64 0, .slice none 0 0] 29)) #[.slice none 0 0] 32; simpa using h)
  clear hC HCD
  go_in
  go_upto_region 1 with fail
  generalize ((w.alloc (.cells #[.int .i64 0, .int .i64 0, .slice none 0 0, .int .i64 0, .slice none 0 0, .int .i64 0, .int .i64 0, .slice none 0 0] 29)).alloc (.cells #[.slice none 0 0] 32)) = W0 at *
  go_wp2_with fail
  refine (HN.out _ HB0.out).mono ?_
  rintro r w1 ⟨rfl, hb1, hc1⟩
  obtain ⟨g, hg⟩ : ∃ g, g = W0.heap.size := ⟨_, rfl⟩
  have hg1 : w.heap.size + 1 < g := by rw [hg]; exact HR4.out.1
  have HB1 := hid (bl_trans HB0.out hb1)
  have HR2a := hid (HR2.out.below hb1)
  have HR4a := hid (HR4.out.below hb1)
  rw [← hg] at hc1 ⊢
  have HC1 := hid hc1
  have hgl := hc1.lt
  clear hg hb1 hc1 HB0 HR2 HR4 HN
  go_wp2_with fail
  refine (HDE.out g _ HC1.out).mono ?_
  rintro r w2 ⟨x, rfl, hl, hv, hP, hC, hO⟩
  have HX2 : Hid (x.lies (g + 1) w2) := hl.base hgl
  have HO2 : Hid (OwnK w2 (g + 1) x) := hO.base hgl
  have HV2 := hid hv
  have HC3 := hid (hC.below (bl_a (.cells #[.int .i64 x.d.k, .int .i64 x.d.op, .slice x.d.v.a x.d.v.len x.d.v.cap, .int .i64 x.d.t.t.k, .slice x.d.t.t.a x.d.t.t.len x.d.t.t.cap, .int .i64 x.d.t.t.n, .int .i64 x.d.t.t.s, .slice x.d.ka x.d.n x.d.kc] 29)))
  have HP3 := hid (hP.trans (Past.of_below (bl_a (.cells #[.int .i64 x.d.k, .int .i64 x.d.op, .slice x.d.v.a x.d.v.len x.d.v.cap, .int .i64 x.d.t.t.k, .slice x.d.t.t.a x.d.t.t.len x.d.t.t.cap, .int .i64 x.d.t.t.n, .int .i64 x.d.t.t.s, .slice x.d.ka x.d.n x.d.kc] 29))))
  have H63 := hid (OB.new w2 #[.int .i64 x.d.k, .int .i64 x.d.op, .slice x.d.v.a x.d.v.len x.d.v.cap, .int .i64 x.d.t.t.k, .slice x.d.t.t.a x.d.t.t.len x.d.t.t.cap, .int .i64 x.d.t.t.n, .int .i64 x.d.t.t.s, .slice x.d.ka x.d.n x.d.kc] 29)
  have hg2 : g < w2.heap.size := hC.lt
  have HU2 : Hid (Upper (g + 1) w2 (w2.alloc (.cells #[.int .i64 x.d.k, .int .i64 x.d.op, .slice x.d.v.a x.d.v.len x.d.v.cap, .int .i64 x.d.t.t.k, .slice x.d.t.t.a x.d.t.t.len x.d.t.t.cap, .int .i64 x.d.t.t.n, .int .i64 x.d.t.t.s, .slice x.d.ka x.d.n x.d.kc] 29))) := Upper.of_below (bl_a _)
  clear hl hv hP hC hO HDE HC1
  go_upto_region 3 with fail
  obtain ⟨b6, hb6⟩ : ∃ b, b = w2.heap.size := ⟨_, rfl⟩
  rw [← hb6] at H63 hg2 ⊢
  have hW3 : b6 < (w2.alloc (.cells #[.int .i64 x.d.k, .int .i64 x.d.op, .slice x.d.v.a x.d.v.len x.d.v.cap, .int .i64 x.d.t.t.k, .slice x.d.t.t.a x.d.t.t.len x.d.t.t.cap, .int .i64 x.d.t.t.n, .int .i64 x.d.t.t.s, .slice x.d.ka x.d.n x.d.kc] 29)).heap.size := H63.out.1
  generalize w2.alloc (.cells #[.int .i64 x.d.k, .int .i64 x.d.op, .slice x.d.v.a x.d.v.len x.d.v.cap, .int .i64 x.d.t.t.k, .slice x.d.t.t.a x.d.t.t.len x.d.t.t.cap, .int .i64 x.d.t.t.n, .int .i64 x.d.t.t.s, .slice x.d.ka x.d.n x.d.kc] 29) = W3 at *
  have hw2 : w2.heap.size ≤ b6 := by rw [hb6]; exact Nat.le_refl _
  clear hb6
  have cv1 := conv_oneV W3 W3.heap.size rfl 120
  have cv2 := conv_oneV (W3.alloc (.cells #[.int .u8 120] 5 (1, 2))) (W3.heap.size + 1) (by simp) 121
  have cv3 := conv_oneV ((W3.alloc (.cells #[.int .u8 120] 5 (1, 2))).alloc (.cells #[.int .u8 121] 5 (1, 2))) (W3.heap.size + 2) (by simp) 122
  have HVS := hid (vars3 W3 (b6 + 1) (by omega))
  have HB4 : Hid (Below W3.heap.size W3 ((((W3.alloc (.cells #[.int .u8 120] 5 (1, 2))).alloc (.cells #[.int .u8 121] 5 (1, 2))).alloc (.cells #[.int .u8 122] 5 (1, 2))).alloc (.cells #[.slice (some ⟨W3.heap.size, 0, none⟩) 1 1, .slice (some ⟨W3.heap.size + 1, 0, none⟩) 1 1, .slice (some ⟨W3.heap.size + 2, 0, none⟩) 1 1] 22))) := bl_alloc (bl_alloc (bl_alloc (bl_a _) _) _) _
  go_upto_region 4 with fail
  obtain ⟨H, hH⟩ : ∃ H, H = W3.heap.size := ⟨_, rfl⟩
  rw [← hH] at HVS HB4 ⊢
  generalize ((((W3.alloc (.cells #[.int .u8 120] 5 (1, 2))).alloc (.cells #[.int .u8 121] 5 (1, 2))).alloc (.cells #[.int .u8 122] 5 (1, 2))).alloc (.cells #[.slice (some ⟨H, 0, none⟩) 1 1, .slice (some ⟨H + 1, 0, none⟩) 1 1, .slice (some ⟨H + 2, 0, none⟩) 1 1] 22)) = W4 at *
  rw [hH] at HB4
  have HC4 := hid (HC3.out.below HB4.out)
  have HP4 := hid (HP3.out.trans (Past.of_below HB4.out))
  have H64 := hid (H63.out.below HB4.out)
  have HU4 := hid (HU2.out.trans (Upper.of_below HB4.out))
  have hW4 : b6 < W4.heap.size := H64.out.1
  clear cv1 cv2 cv3 HB4 HC3 HP3 H63 HU2 hW3 hH
  go_wp2_with fail
  refine (HSO.out g _ HC4.out).mono ?_
  rintro r w5 ⟨G, f, rfl, hS, hP, hC⟩
  have HS5 : Hid (S3c w5 (b6 + 1) G f) := hS.base (by omega)
  have HC6 := hid (hC.below (bl_a (.cells #[.slice (some ⟨G, 0, none⟩) 3 3] 32)))
  have HP6 := hid ((HP4.out.trans hP).trans (Past.of_below (bl_a (.cells #[.slice (some ⟨G, 0, none⟩) 3 3] 32))))
  have H66 := hid ((H64.out.past hP (by omega)).below (bl_a (.cells #[.slice (some ⟨G, 0, none⟩) 3 3] 32)))
  have H86 := hid (OB.new w5 #[.slice (some ⟨G, 0, none⟩) 3 3] 32)
  have HS6 := hid (HS5.out.below (bl_a (.cells #[.slice (some ⟨G, 0, none⟩) 3 3] 32)))
  have HU46 : Hid (Upper (b6 + 1) W4 (w5.alloc (.cells #[.slice (some ⟨G, 0, none⟩) 3 3] 32))) := (hP.upper (by omega)).trans (Upper.of_below (bl_a _))
  have HU26 : Hid (Upper (g + 1) W4 (w5.alloc (.cells #[.slice (some ⟨G, 0, none⟩) 3 3] 32))) := (hP.upper (Nat.lt_succ_self _)).trans (Upper.of_below (bl_a _))
  have HU56 : Hid (Upper (b6 + 1) w5 (w5.alloc (.cells #[.slice (some ⟨G, 0, none⟩) 3 3] 32))) := Upper.of_below (bl_a _)
  have hG4 : W4.heap.size ≤ G := hS.lo
  have hW5 : b6 < w5.heap.size := Nat.lt_of_lt_of_le hW4 hP.size
  have hG5 : G < w5.heap.size := hS.ob.1
  clear hS hP hC HSO HC4 HP4 H64
  go_upto_region 5 with fail
  obtain ⟨b8, hb8⟩ : ∃ b, b = w5.heap.size := ⟨_, rfl⟩
  have hw8 : w5.heap.size ≤ b8 := by rw [hb8]; exact Nat.le_refl _
  rw [← hb8] at H86 hW5 hG5 ⊢
  generalize w5.alloc (.cells #[.slice (some ⟨G, 0, none⟩) 3 3] 32) = W6 at *
  clear hb8
  have HU : Hid (DU g b6 w2 W4 w5 W6) := ⟨HU4.out.trans HU26.out, HU46.out, HU56.out⟩
  have HV4 := hid (rv_row HVS.out.1 (fun y hy => HVS.out.2 y hy))
  have HWB : Hid (w5.heap.size ≤ b8) := hw8
  have HD6 : Hid (DV w W6 g b6 b8 a len cap x (some ⟨H + 3, 0, none⟩) 3 3 (varV H) ⟨some ⟨G, 0, none⟩, 3, 3, f⟩) := by
    have hv := HV4.out
    exact ⟨HB1.out.trans (HP6.out.below (by omega) HB1.out.size), HR2a.out.past HP6.out (by omega), HR4a.out.past HP6.out (by omega), H66.out, H86.out, ⟨hg1, hg2, hW5⟩, ET.lies.upper HU.out.u2 HX2.out, HV2.out, ⟨(hv.1.upper HU.out.u4).base (by omega), fun i hi => SL.lies.base (SL.lies.upper (hv.2 i hi) HU.out.u4) (by omega), by decide⟩, HS6.out.so.base (by omega)⟩
  clear HR2a HR4a HP6 H66 H86 HB1 HU4 HU46 HU26 HU56
  go_wp2_with fail
  refine (O.out g _ HC6.out).mono ?_
  rintro r w7 ⟨p7, rfl, hP7, hC7⟩
  have HD7 := hid (HD6.out.past hP7)
  have HU7 := hid (HU.out.past hP7 (by omega))
  have HS7 := hid (HS6.out.past hP7 (by omega))
  clear HS6
  have HC7 := hid hC7
  cases p7 with
  | false =>
    clear hP7 hC7 HD6 O B HBE HO2 HVS HU HU7 HS7
    have HE := hid (HD7.out.past (Past.of_below (Below.drew (Below.refl _ _))))
    have hgt := HD7.out.gt
    go_wp2_with fail
    refine wqd (fun w' => Box w' b6 [.int .i64 x.d.k, .int .i64 x.d.op, .slice x.d.v.a x.d.v.len x.d.v.cap, .int .i64 x.d.t.t.k, .slice x.d.t.t.a x.d.t.t.len x.d.t.t.cap, .int .i64 x.d.t.t.n, .int .i64 x.d.t.t.s, .slice x.d.ka x.d.n x.d.kc] ∧ Box w' b8 [.slice (some ⟨G, 0, none⟩) 3 3]) ?_ fun hHeld => ?_
    · exact ⟨HE.out.x6.box, HE.out.x8.box⟩
    refine ldq 0 55 Try.underlying29 (fun w' h => h.1.range 0 [.int .i64 x.d.k, .int .i64 x.d.op, .slice x.d.v.a x.d.v.len x.d.v.cap, .int .i64 x.d.t.t.k, .slice x.d.t.t.a x.d.t.t.len x.d.t.t.cap, .int .i64 x.d.t.t.n, .int .i64 x.d.t.t.s, .slice x.d.ka x.d.n x.d.kc] rfl) ?_
    refine tqB 1 56 ?_
    refine ldq 2 57 Try.underlying32 (fun w' h => h.2.range 0 [.slice (some ⟨G, 0, none⟩) 3 3] rfl) ?_
    have st : w7.drew.there w.heap.size 0 8 := HE.out.r2.there 0 8 (by simp)
    have on : (#[.int .i64 x.d.k, .int .i64 x.d.op, .slice x.d.v.a x.d.v.len x.d.v.cap, .int .i64 x.d.t.t.k, .slice x.d.t.t.a x.d.t.t.len x.d.t.t.cap, .int .i64 x.d.t.t.n, .int .i64 x.d.t.t.s, .slice x.d.ka x.d.n x.d.kc] : Array Value).all (·.oneCell') = true := all_oneCell_toArray (cs := [.int .i64 x.d.k, .int .i64 x.d.op, .slice x.d.v.a x.d.v.len x.d.v.cap, .int .i64 x.d.t.t.k, .slice x.d.t.t.a x.d.t.t.len x.d.t.t.cap, .int .i64 x.d.t.t.n, .int .i64 x.d.t.t.s, .slice x.d.ka x.d.n x.d.kc]) (by simp [Value.oneCell'])
    have hrd : (w7.drew.setCells w.heap.size 0 [.int .i64 x.d.k, .int .i64 x.d.op, .slice x.d.v.a x.d.v.len x.d.v.cap, .int .i64 x.d.t.t.k, .slice x.d.t.t.a x.d.t.t.len x.d.t.t.cap, .int .i64 x.d.t.t.n, .int .i64 x.d.t.t.s, .slice x.d.ka x.d.n x.d.kc]).rangeAt w.heap.size 0 [.int .i64 x.d.k, .int .i64 x.d.op, .slice x.d.v.a x.d.v.len x.d.v.cap, .int .i64 x.d.t.t.k, .slice x.d.t.t.a x.d.t.t.len x.d.t.t.cap, .int .i64 x.d.t.t.n, .int .i64 x.d.t.t.s, .slice x.d.ka x.d.n x.d.kc] := World.rangeAt_setCells_same _ _ _ _ st
    have hb2 := but_sets w.heap.size [.int .i64 x.d.k, .int .i64 x.d.op, .slice x.d.v.a x.d.v.len x.d.v.cap, .int .i64 x.d.t.t.k, .slice x.d.t.t.a x.d.t.t.len x.d.t.t.cap, .int .i64 x.d.t.t.n, .int .i64 x.d.t.t.s, .slice x.d.ka x.d.n x.d.kc] 0 w7.drew
    have HR4 := hid (HE.out.r4.but hb2 (by omega))
    have hy6 := hid (HE.out.x6.box.upper hb2 (by omega))
    have hy8 := hid (HE.out.x8.box.upper hb2 (by omega))
    have HEND := hid (dv_end HE.out [.int .i64 x.d.k, .int .i64 x.d.op, .slice x.d.v.a x.d.v.len x.d.v.cap, .int .i64 x.d.t.t.k, .slice x.d.t.t.a x.d.t.t.len x.d.t.t.cap, .int .i64 x.d.t.t.n, .int .i64 x.d.t.t.s, .slice x.d.ka x.d.n x.d.kc] [.slice (some ⟨G, 0, none⟩) 3 3])
    refine rqA 3 fun K hK => ?_
    refine step_storeV 29 w.heap.size 0 #[.int .i64 x.d.k, .int .i64 x.d.op, .slice x.d.v.a x.d.v.len x.d.v.cap, .int .i64 x.d.t.t.k, .slice x.d.t.t.a x.d.t.t.len x.d.t.t.cap, .int .i64 x.d.t.t.n, .int .i64 x.d.t.t.s, .slice x.d.ka x.d.n x.d.kc] st on ?_
    refine hK.out _ _ ?_ (fun hHeld => ?_)
    · exact ⟨hy6.out, hy8.out⟩
    clear hK K st on hHeld hb2
    try simp only [Act.put]
    generalize w7.drew.setCells w.heap.size 0 [.int .i64 x.d.k, .int .i64 x.d.op, .slice x.d.v.a x.d.v.len x.d.v.cap, .int .i64 x.d.t.t.k, .slice x.d.t.t.a x.d.t.t.len x.d.t.t.cap, .int .i64 x.d.t.t.n, .int .i64 x.d.t.t.s, .slice x.d.ka x.d.n x.d.kc] = W9 at *
    have hHeld : Box W9 b6 [.int .i64 x.d.k, .int .i64 x.d.op, .slice x.d.v.a x.d.v.len x.d.v.cap, .int .i64 x.d.t.t.k, .slice x.d.t.t.a x.d.t.t.len x.d.t.t.cap, .int .i64 x.d.t.t.n, .int .i64 x.d.t.t.s, .slice x.d.ka x.d.n x.d.kc] ∧ Box W9 b8 [.slice (some ⟨G, 0, none⟩) 3 3] := ⟨hy6.out, hy8.out⟩
    refine tqB 4 3 ?_
    have st : W9.there (w.heap.size + 1) 0 1 := HR4.out.there 0 1 (by simp)
    have on : (#[.slice (some ⟨G, 0, none⟩) 3 3] : Array Value).all (·.oneCell') = true := all_oneCell_toArray (cs := [.slice (some ⟨G, 0, none⟩) 3 3]) (by simp [Value.oneCell'])
    have hrd2 : (W9.setCells (w.heap.size + 1) 0 [.slice (some ⟨G, 0, none⟩) 3 3]).rangeAt (w.heap.size + 1) 0 [.slice (some ⟨G, 0, none⟩) 3 3] := World.rangeAt_setCells_same _ _ _ _ st
    have hb3 := but_sets (w.heap.size + 1) [.slice (some ⟨G, 0, none⟩) 3 3] 0 W9
    have hrd1 : (W9.setCells (w.heap.size + 1) 0 [.slice (some ⟨G, 0, none⟩) 3 3]).rangeAt w.heap.size 0 [.int .i64 x.d.k, .int .i64 x.d.op, .slice x.d.v.a x.d.v.len x.d.v.cap, .int .i64 x.d.t.t.k, .slice x.d.t.t.a x.d.t.t.len x.d.t.t.cap, .int .i64 x.d.t.t.n, .int .i64 x.d.t.t.s, .slice x.d.ka x.d.n x.d.kc] := fun j v hv => (hb3.cell (p := ⟨w.heap.size, 0 + j, none⟩) (show w.heap.size ≠ w.heap.size + 1 by omega)).trans (hrd j v hv)
    have hx6 := hid (hHeld.1.upper hb3 (by omega))
    have hx8 := hid (hHeld.2.upper hb3 (by omega))
    clear HE HD7 hHeld HR4 hrd hy6 hy8 hb3
    refine rqA 5 fun K hK => ?_
    refine step_storeV 32 (w.heap.size + 1) 0 #[.slice (some ⟨G, 0, none⟩) 3 3] st on ?_
    refine hK.out _ _ ?_ (fun hHeld2 => ?_)
    · exact ⟨hx6.out, hx8.out⟩
    clear hK K st on hHeld2
    try simp only [Act.put]
    generalize W9.setCells (w.heap.size + 1) 0 [.slice (some ⟨G, 0, none⟩) 3 3] = W10 at *
    refine wpAnyH_done (by kernel_rfl) ?_ _
    go_wp2
    try simp only [Exit.inBlock, Exit.then]
    refine bodyPost_ret (v := .tuple #[.agg #[.int .i64 x.d.k, .int .i64 x.d.op, .slice x.d.v.a x.d.v.len x.d.v.cap, .int .i64 x.d.t.t.k, .slice x.d.t.t.a x.d.t.t.len x.d.t.t.cap, .int .i64 x.d.t.t.n, .int .i64 x.d.t.t.s, .slice x.d.ka x.d.n x.d.kc], .slice (some ⟨H + 3, 0, none⟩) 3 3, .agg #[.slice (some ⟨G, 0, none⟩) 3 3]]) ?hrn rfl ?hpn
    case hrn => exact results_cell3 rfl rfl rfl rfl (run_loadVar_mid (P := Try.prog) _ w.heap.size 0 29 [.int .i64 x.d.k, .int .i64 x.d.op, .slice x.d.v.a x.d.v.len x.d.v.cap, .int .i64 x.d.t.t.k, .slice x.d.t.t.a x.d.t.t.len x.d.t.t.cap, .int .i64 x.d.t.t.n, .int .i64 x.d.t.t.s, .slice x.d.ka x.d.n x.d.kc] _ hrd1 Try.underlying29 rfl (by kernel_rfl)) (run_loadVar_mid (P := Try.prog) _ (w.heap.size + 1) 0 32 [.slice (some ⟨G, 0, none⟩) 3 3] _ hrd2 Try.underlying32 rfl (by kernel_rfl))
    exact HEND.out
  | true =>
    clear HD6 HU hP7 hC7 O
    go_wp2_with fail
    refine (B.out g _ HC7.out).mono ?_
    rintro r w8 ⟨y, rfl, hy, hP8, hC8⟩
    have HD8 := hid (HD7.out.past hP8)
    have HU8 := hid (HU7.out.past hP8 (by omega))
    have HS8 := hid (HS7.out.past hP8 (by omega))
    clear HS7
    have HC8 := hid hC8
    clear hP8 hC8 HD7 HU7 HC7 B
    have hyy : y = 2 ∨ y = 1 ∨ y = 0 ∨ y = 3 := by omega
    clear hy
    rcases hyy with rfl | rfl | rfl | rfl
    · have c8 := (HD8.out.x8.2 0 _ rfl).1
      have f8 := (HD8.out.x8.2 0 _ rfl).2
      have HBT := hid ((But.refl b8 w8).set 0 (.slice (some ⟨G, 5, none⟩) 2 2))
      have HX8 := hid (HD8.out.x8.set 0 (.slice (some ⟨G, 5, none⟩) 2 2))
      have hgt := HD8.out.gt
      have HUn : Hid (DU g b6 w2 W4 w5 (w8.setCell ⟨b8, 0, none⟩ (.slice (some ⟨G, 5, none⟩) 2 2))) := ⟨HU8.out.u2.but_new HBT.out (by have := HWB.out; omega), HU8.out.u4.but_new HBT.out (by have := HWB.out; omega), HU8.out.u5.but_new HBT.out HWB.out⟩
      have HBLn : Hid (Below w.heap.size w (w8.setCell ⟨b8, 0, none⟩ (.slice (some ⟨G, 5, none⟩) 2 2))) := HD8.out.bl.setCell (p := ⟨b8, 0, none⟩) (by show w.heap.size ≤ b8; omega) _
      go_upto_region 14 with fail
      have HDn : Hid (DV w (w8.setCell ⟨b8, 0, none⟩ (.slice (some ⟨G, 5, none⟩) 2 2)) g b6 b8 a len cap x (some ⟨H + 3, 0, none⟩) 3 3 (varV H) ⟨some ⟨G, 5, none⟩, 2, 2, fun i => f (i + 1)⟩) :=
        ⟨HBLn.out, HD8.out.r2.but HBT.out (by omega), HD8.out.r4.but HBT.out (by omega), HD8.out.x6.but HBT.out (by omega), HX8.out, hgt, ET.lies.upper HUn.out.u2 HX2.out, HV2.out, ⟨(HV4.out.1.upper HUn.out.u4).base (by omega), fun i hi => SL.lies.base (SL.lies.upper (HV4.out.2 i hi) HUn.out.u4) (by omega), by decide⟩, ((HS5.out.so2).upper HUn.out.u5).base (by omega)⟩
      clear c8 f8 HBT HX8 HUn HBLn HD8 HU8 HC8 HBE HO2 HVS HV4 HS5 HS8 hgt
      generalize w8.setCell ⟨b8, 0, none⟩ (.slice (some ⟨G, 5, none⟩) 2 2) = w9 at *
      have HE := hid (HDn.out.past (Past.of_below (Below.drew (Below.refl _ _))))
      have hgt := HDn.out.gt
      go_wp2_with fail
      refine wqd (fun w' => Box w' b6 [.int .i64 x.d.k, .int .i64 x.d.op, .slice x.d.v.a x.d.v.len x.d.v.cap, .int .i64 x.d.t.t.k, .slice x.d.t.t.a x.d.t.t.len x.d.t.t.cap, .int .i64 x.d.t.t.n, .int .i64 x.d.t.t.s, .slice x.d.ka x.d.n x.d.kc] ∧ Box w' b8 [.slice (some ⟨G, 5, none⟩) 2 2]) ?_ fun hHeld => ?_
      · exact ⟨HE.out.x6.box, HE.out.x8.box⟩
      refine ldq 0 55 Try.underlying29 (fun w' h => h.1.range 0 [.int .i64 x.d.k, .int .i64 x.d.op, .slice x.d.v.a x.d.v.len x.d.v.cap, .int .i64 x.d.t.t.k, .slice x.d.t.t.a x.d.t.t.len x.d.t.t.cap, .int .i64 x.d.t.t.n, .int .i64 x.d.t.t.s, .slice x.d.ka x.d.n x.d.kc] rfl) ?_
      refine tqB 1 56 ?_
      refine ldq 2 57 Try.underlying32 (fun w' h => h.2.range 0 [.slice (some ⟨G, 5, none⟩) 2 2] rfl) ?_
      have st : w9.drew.there w.heap.size 0 8 := HE.out.r2.there 0 8 (by simp)
      have on : (#[.int .i64 x.d.k, .int .i64 x.d.op, .slice x.d.v.a x.d.v.len x.d.v.cap, .int .i64 x.d.t.t.k, .slice x.d.t.t.a x.d.t.t.len x.d.t.t.cap, .int .i64 x.d.t.t.n, .int .i64 x.d.t.t.s, .slice x.d.ka x.d.n x.d.kc] : Array Value).all (·.oneCell') = true := all_oneCell_toArray (cs := [.int .i64 x.d.k, .int .i64 x.d.op, .slice x.d.v.a x.d.v.len x.d.v.cap, .int .i64 x.d.t.t.k, .slice x.d.t.t.a x.d.t.t.len x.d.t.t.cap, .int .i64 x.d.t.t.n, .int .i64 x.d.t.t.s, .slice x.d.ka x.d.n x.d.kc]) (by simp [Value.oneCell'])
      have hrd : (w9.drew.setCells w.heap.size 0 [.int .i64 x.d.k, .int .i64 x.d.op, .slice x.d.v.a x.d.v.len x.d.v.cap, .int .i64 x.d.t.t.k, .slice x.d.t.t.a x.d.t.t.len x.d.t.t.cap, .int .i64 x.d.t.t.n, .int .i64 x.d.t.t.s, .slice x.d.ka x.d.n x.d.kc]).rangeAt w.heap.size 0 [.int .i64 x.d.k, .int .i64 x.d.op, .slice x.d.v.a x.d.v.len x.d.v.cap, .int .i64 x.d.t.t.k, .slice x.d.t.t.a x.d.t.t.len x.d.t.t.cap, .int .i64 x.d.t.t.n, .int .i64 x.d.t.t.s, .slice x.d.ka x.d.n x.d.kc] := World.rangeAt_setCells_same _ _ _ _ st
      have hb2 := but_sets w.heap.size [.int .i64 x.d.k, .int .i64 x.d.op, .slice x.d.v.a x.d.v.len x.d.v.cap, .int .i64 x.d.t.t.k, .slice x.d.t.t.a x.d.t.t.len x.d.t.t.cap, .int .i64 x.d.t.t.n, .int .i64 x.d.t.t.s, .slice x.d.ka x.d.n x.d.kc] 0 w9.drew
      have HR4 := hid (HE.out.r4.but hb2 (by omega))
      have hy6 := hid (HE.out.x6.box.upper hb2 (by omega))
      have hy8 := hid (HE.out.x8.box.upper hb2 (by omega))
      have HEND := hid (dv_end HE.out [.int .i64 x.d.k, .int .i64 x.d.op, .slice x.d.v.a x.d.v.len x.d.v.cap, .int .i64 x.d.t.t.k, .slice x.d.t.t.a x.d.t.t.len x.d.t.t.cap, .int .i64 x.d.t.t.n, .int .i64 x.d.t.t.s, .slice x.d.ka x.d.n x.d.kc] [.slice (some ⟨G, 5, none⟩) 2 2])
      refine rqA 3 fun K hK => ?_
      refine step_storeV 29 w.heap.size 0 #[.int .i64 x.d.k, .int .i64 x.d.op, .slice x.d.v.a x.d.v.len x.d.v.cap, .int .i64 x.d.t.t.k, .slice x.d.t.t.a x.d.t.t.len x.d.t.t.cap, .int .i64 x.d.t.t.n, .int .i64 x.d.t.t.s, .slice x.d.ka x.d.n x.d.kc] st on ?_
      refine hK.out _ _ ?_ (fun hHeld => ?_)
      · exact ⟨hy6.out, hy8.out⟩
      clear hK K st on hHeld hb2
      try simp only [Act.put]
      generalize w9.drew.setCells w.heap.size 0 [.int .i64 x.d.k, .int .i64 x.d.op, .slice x.d.v.a x.d.v.len x.d.v.cap, .int .i64 x.d.t.t.k, .slice x.d.t.t.a x.d.t.t.len x.d.t.t.cap, .int .i64 x.d.t.t.n, .int .i64 x.d.t.t.s, .slice x.d.ka x.d.n x.d.kc] = W9 at *
      have hHeld : Box W9 b6 [.int .i64 x.d.k, .int .i64 x.d.op, .slice x.d.v.a x.d.v.len x.d.v.cap, .int .i64 x.d.t.t.k, .slice x.d.t.t.a x.d.t.t.len x.d.t.t.cap, .int .i64 x.d.t.t.n, .int .i64 x.d.t.t.s, .slice x.d.ka x.d.n x.d.kc] ∧ Box W9 b8 [.slice (some ⟨G, 5, none⟩) 2 2] := ⟨hy6.out, hy8.out⟩
      refine tqB 4 3 ?_
      have st : W9.there (w.heap.size + 1) 0 1 := HR4.out.there 0 1 (by simp)
      have on : (#[.slice (some ⟨G, 5, none⟩) 2 2] : Array Value).all (·.oneCell') = true := all_oneCell_toArray (cs := [.slice (some ⟨G, 5, none⟩) 2 2]) (by simp [Value.oneCell'])
      have hrd2 : (W9.setCells (w.heap.size + 1) 0 [.slice (some ⟨G, 5, none⟩) 2 2]).rangeAt (w.heap.size + 1) 0 [.slice (some ⟨G, 5, none⟩) 2 2] := World.rangeAt_setCells_same _ _ _ _ st
      have hb3 := but_sets (w.heap.size + 1) [.slice (some ⟨G, 5, none⟩) 2 2] 0 W9
      have hrd1 : (W9.setCells (w.heap.size + 1) 0 [.slice (some ⟨G, 5, none⟩) 2 2]).rangeAt w.heap.size 0 [.int .i64 x.d.k, .int .i64 x.d.op, .slice x.d.v.a x.d.v.len x.d.v.cap, .int .i64 x.d.t.t.k, .slice x.d.t.t.a x.d.t.t.len x.d.t.t.cap, .int .i64 x.d.t.t.n, .int .i64 x.d.t.t.s, .slice x.d.ka x.d.n x.d.kc] := fun j v hv => (hb3.cell (p := ⟨w.heap.size, 0 + j, none⟩) (show w.heap.size ≠ w.heap.size + 1 by omega)).trans (hrd j v hv)
      have hx6 := hid (hHeld.1.upper hb3 (by omega))
      have hx8 := hid (hHeld.2.upper hb3 (by omega))
      clear HE HDn hHeld HR4 hrd hy6 hy8 hb3
      refine rqA 5 fun K hK => ?_
      refine step_storeV 32 (w.heap.size + 1) 0 #[.slice (some ⟨G, 5, none⟩) 2 2] st on ?_
      refine hK.out _ _ ?_ (fun hHeld2 => ?_)
      · exact ⟨hx6.out, hx8.out⟩
      clear hK K st on hHeld2
      try simp only [Act.put]
      generalize W9.setCells (w.heap.size + 1) 0 [.slice (some ⟨G, 5, none⟩) 2 2] = W10 at *
      refine wpAnyH_done (by kernel_rfl) ?_ _
      go_wp2
      try simp only [Exit.inBlock, Exit.then]
      refine bodyPost_ret (v := .tuple #[.agg #[.int .i64 x.d.k, .int .i64 x.d.op, .slice x.d.v.a x.d.v.len x.d.v.cap, .int .i64 x.d.t.t.k, .slice x.d.t.t.a x.d.t.t.len x.d.t.t.cap, .int .i64 x.d.t.t.n, .int .i64 x.d.t.t.s, .slice x.d.ka x.d.n x.d.kc], .slice (some ⟨H + 3, 0, none⟩) 3 3, .agg #[.slice (some ⟨G, 5, none⟩) 2 2]]) ?hrc rfl ?hpc
      case hrc => exact results_cell3 rfl rfl rfl rfl (run_loadVar_mid (P := Try.prog) _ w.heap.size 0 29 [.int .i64 x.d.k, .int .i64 x.d.op, .slice x.d.v.a x.d.v.len x.d.v.cap, .int .i64 x.d.t.t.k, .slice x.d.t.t.a x.d.t.t.len x.d.t.t.cap, .int .i64 x.d.t.t.n, .int .i64 x.d.t.t.s, .slice x.d.ka x.d.n x.d.kc] _ hrd1 Try.underlying29 rfl (by kernel_rfl)) (run_loadVar_mid (P := Try.prog) _ (w.heap.size + 1) 0 32 [.slice (some ⟨G, 5, none⟩) 2 2] _ hrd2 Try.underlying32 rfl (by kernel_rfl))
      exact HEND.out
    · have cv := conv_oneV w8 w8.heap.size rfl 120
      obtain ⟨i0, hi0, hzz⟩ := Option.map_eq_some_iff.1 Try.infoB22
      simp only [Prod.mk.injEq] at hzz
      obtain ⟨hi2, hi1, hi3⟩ := hzz
      have hgt := HD8.out.gt
      have HB9 : Hid (Below w8.heap.size w8 ((w8.alloc (.cells #[.int .u8 120] 5 (1, 2))).alloc (.cells #[.slice (some ⟨w8.heap.size, 0, none⟩) 1 1] 22))) := bl_alloc (bl_a _) _
      have HRV : Hid (RV w8 (b6 + 1) (.slice (some ⟨H + 3, 0, none⟩) 3 3) [varV H 0, varV H 1, varV H 2]) := HVS.out.1.upper HU8.out.u4
      have HLD : Hid (∀ b, some (⟨H + 3, 0, none⟩ : Addr) = some b → ∀ j u, ([SL.v (varV H 0), SL.v (varV H 1), SL.v (varV H 2)] : List Value)[j]? = some u → ((w8.alloc (.cells #[.int .u8 120] 5 (1, 2))).alloc (.cells #[.slice (some ⟨w8.heap.size, 0, none⟩) 1 1] 22)).cell? (b.add j) = some u) := fun b hb j u hu => by
        cases hb
        obtain ⟨h1, h2⟩ := owns_cells HRV.out.own _ rfl j u hu
        exact (HB9.out.cell h2).trans h1
      have HNW := hid (one_cell (w := w8.alloc (.cells #[.int .u8 120] 5 (1, 2))) (.slice (some ⟨w8.heap.size, 0, none⟩) 1 1) 22)
      have es : (w8.alloc (.cells #[.int .u8 120] 5 (1, 2))).heap.size = w8.heap.size + 1 := by simp
      rw [es] at HNW
      have HY9 : Hid (BsF (b6 + 1) ((w8.alloc (.cells #[.int .u8 120] 5 (1, 2))).alloc (.cells #[.slice (some ⟨w8.heap.size, 0, none⟩) 1 1] 22)) ⟨some ⟨w8.heap.size, 0, none⟩, 1, 1, [120]⟩) := (OB1 w8 120 5 (b6 + 1) (by have := HD8.out.x8.1; omega) (by omega)).upper (Upper.of_below (bl_a _))
      have HSZ : Hid (((w8.alloc (.cells #[.int .u8 120] 5 (1, 2))).alloc (.cells #[.slice (some ⟨w8.heap.size, 0, none⟩) 1 1] 22)).heap.size = w8.heap.size + 1 + 1) := (show _ = _ by simp)
      clear es
      go_wp2_with (refine wpList_append_grows _ rfl (.tmp 44) (.tmp 47) 33 rfl 22 i0 (.slice none 0 0) 1 24 Try.underlying33 hi0 hi2 hi1 hi3 rfl (by omega) (some ⟨H + 3, 0, none⟩) 3 3 [SL.v (varV H 0), SL.v (varV H 1), SL.v (varV H 2)] rfl (fun h => by cases h) rfl HLD.out ⟨w8.heap.size + 1, 0, none⟩ 1 1 [.slice (some ⟨w8.heap.size, 0, none⟩) 1 1] rfl rfl HNW.out (fun u hu => by rw [List.mem_singleton.1 hu]; rfl) (by omega) (by unfold maxLen; omega) (by omega) ?_; intro v9 w9 hown hgr; obtain ⟨g9, cap9, rfl, hBg, hlt⟩ := hown.form (by omega); have HOW := hid hown; have HGR := hid hgr; clear hown hgr)
      have HB89 : Hid (Below w8.heap.size w8 w9) := HB9.out.trans ((show Below _ _ _ from ⟨HGR.out.os, HGR.out.tape, HGR.out.output, HGR.out.size, fun b hb => HGR.out.block b hb (by simp)⟩ : Below ((w8.alloc (.cells #[.int .u8 120] 5 (1, 2))).alloc (.cells #[.slice (some ⟨w8.heap.size, 0, none⟩) 1 1] 22)).heap.size ((w8.alloc (.cells #[.int .u8 120] 5 (1, 2))).alloc (.cells #[.slice (some ⟨w8.heap.size, 0, none⟩) 1 1] 22)) w9).mono HB9.out.size)
      have hW8 : b8 < w8.heap.size := HD8.out.x8.1
      have HRV9 : Hid (RV w9 (b6 + 1) (.slice (some ⟨g9, 0, none⟩) 4 cap9) [varV H 0, varV H 1, varV H 2, ⟨some ⟨w8.heap.size, 0, none⟩, 1, 1, [120]⟩]) := ⟨ownsRow_base HOW.out (by have := HSZ.out; omega), fun c hc => by have e : g9 = c := (by simpa [Value.ownBlock] using hc); subst e; exact ⟨by have := HSZ.out; omega, hlt⟩⟩
      have HTX9 : Hid (∀ y ∈ [varV H 0, varV H 1, varV H 2, ⟨some ⟨w8.heap.size, 0, none⟩, 1, 1, [120]⟩], BsF (b6 + 1) w9 y) := fun y hy => by
        have hu9 : Upper (b6 + 1) w8 w9 := Upper.of_below HB89.out
        simp only [List.mem_cons, List.not_mem_nil, or_false] at hy
        rcases hy with rfl | rfl | rfl | rfl
        · exact BsF.upper (BsF.upper (HVS.out.2 _ (by simp)) HU8.out.u4) hu9
        · exact BsF.upper (BsF.upper (HVS.out.2 _ (by simp)) HU8.out.u4) hu9
        · exact BsF.upper (BsF.upper (HVS.out.2 _ (by simp)) HU8.out.u4) hu9
        · exact HY9.out.upper (Upper.of_below ⟨HGR.out.os, HGR.out.tape, HGR.out.output, HGR.out.size, fun b hb => HGR.out.block b hb (by simp)⟩)
      have HK9 := hid (rv_krow HRV9.out HTX9.out)
      have HD9 := hid (HD8.out.past (Past.of_below HB89.out))
      have HDn : Hid (DV w w9 g b6 b8 a len cap x (some ⟨g9, 0, none⟩) 4 cap9 (fun i => ([varV H 0, varV H 1, varV H 2, ⟨some ⟨w8.heap.size, 0, none⟩, 1, 1, [120]⟩] : List SL)[i]?.getD ⟨none, 0, 0, []⟩) ⟨some ⟨G, 0, none⟩, 3, 3, f⟩) :=
        ⟨HD9.out.bl, HD9.out.r2, HD9.out.r4, HD9.out.x6, HD9.out.x8, HD9.out.gt, HD9.out.el, HD9.out.lv, ⟨HK9.out.2.1.base (by omega), fun i hi => SL.lies.base (HK9.out.2.2 i hi) (by omega), by decide⟩, HD9.out.sl⟩
      clear HB89 HRV9 HTX9 HK9 HD9 HOW HGR HB9 HRV HLD HNW HY9 HSZ cv hi0 hi2 hi1 hi3 HD8 HU8 HC8 HBE HO2 HVS HV4 HS5 HS8 hgt hBg hlt hW8
      have HE := hid (HDn.out.past (Past.of_below (Below.drew (Below.refl _ _))))
      have hgt := HDn.out.gt
      go_wp2_with fail
      refine wqd (fun w' => Box w' b6 [.int .i64 x.d.k, .int .i64 x.d.op, .slice x.d.v.a x.d.v.len x.d.v.cap, .int .i64 x.d.t.t.k, .slice x.d.t.t.a x.d.t.t.len x.d.t.t.cap, .int .i64 x.d.t.t.n, .int .i64 x.d.t.t.s, .slice x.d.ka x.d.n x.d.kc] ∧ Box w' b8 [.slice (some ⟨G, 0, none⟩) 3 3]) ?_ fun hHeld => ?_
      · exact ⟨HE.out.x6.box, HE.out.x8.box⟩
      refine ldq 0 55 Try.underlying29 (fun w' h => h.1.range 0 [.int .i64 x.d.k, .int .i64 x.d.op, .slice x.d.v.a x.d.v.len x.d.v.cap, .int .i64 x.d.t.t.k, .slice x.d.t.t.a x.d.t.t.len x.d.t.t.cap, .int .i64 x.d.t.t.n, .int .i64 x.d.t.t.s, .slice x.d.ka x.d.n x.d.kc] rfl) ?_
      refine tqB 1 56 ?_
      refine ldq 2 57 Try.underlying32 (fun w' h => h.2.range 0 [.slice (some ⟨G, 0, none⟩) 3 3] rfl) ?_
      have st : w9.drew.there w.heap.size 0 8 := HE.out.r2.there 0 8 (by simp)
      have on : (#[.int .i64 x.d.k, .int .i64 x.d.op, .slice x.d.v.a x.d.v.len x.d.v.cap, .int .i64 x.d.t.t.k, .slice x.d.t.t.a x.d.t.t.len x.d.t.t.cap, .int .i64 x.d.t.t.n, .int .i64 x.d.t.t.s, .slice x.d.ka x.d.n x.d.kc] : Array Value).all (·.oneCell') = true := all_oneCell_toArray (cs := [.int .i64 x.d.k, .int .i64 x.d.op, .slice x.d.v.a x.d.v.len x.d.v.cap, .int .i64 x.d.t.t.k, .slice x.d.t.t.a x.d.t.t.len x.d.t.t.cap, .int .i64 x.d.t.t.n, .int .i64 x.d.t.t.s, .slice x.d.ka x.d.n x.d.kc]) (by simp [Value.oneCell'])
      have hrd : (w9.drew.setCells w.heap.size 0 [.int .i64 x.d.k, .int .i64 x.d.op, .slice x.d.v.a x.d.v.len x.d.v.cap, .int .i64 x.d.t.t.k, .slice x.d.t.t.a x.d.t.t.len x.d.t.t.cap, .int .i64 x.d.t.t.n, .int .i64 x.d.t.t.s, .slice x.d.ka x.d.n x.d.kc]).rangeAt w.heap.size 0 [.int .i64 x.d.k, .int .i64 x.d.op, .slice x.d.v.a x.d.v.len x.d.v.cap, .int .i64 x.d.t.t.k, .slice x.d.t.t.a x.d.t.t.len x.d.t.t.cap, .int .i64 x.d.t.t.n, .int .i64 x.d.t.t.s, .slice x.d.ka x.d.n x.d.kc] := World.rangeAt_setCells_same _ _ _ _ st
      have hb2 := but_sets w.heap.size [.int .i64 x.d.k, .int .i64 x.d.op, .slice x.d.v.a x.d.v.len x.d.v.cap, .int .i64 x.d.t.t.k, .slice x.d.t.t.a x.d.t.t.len x.d.t.t.cap, .int .i64 x.d.t.t.n, .int .i64 x.d.t.t.s, .slice x.d.ka x.d.n x.d.kc] 0 w9.drew
      have HR4 := hid (HE.out.r4.but hb2 (by omega))
      have hy6 := hid (HE.out.x6.box.upper hb2 (by omega))
      have hy8 := hid (HE.out.x8.box.upper hb2 (by omega))
      have HEND := hid (dv_end HE.out [.int .i64 x.d.k, .int .i64 x.d.op, .slice x.d.v.a x.d.v.len x.d.v.cap, .int .i64 x.d.t.t.k, .slice x.d.t.t.a x.d.t.t.len x.d.t.t.cap, .int .i64 x.d.t.t.n, .int .i64 x.d.t.t.s, .slice x.d.ka x.d.n x.d.kc] [.slice (some ⟨G, 0, none⟩) 3 3])
      refine rqA 3 fun K hK => ?_
      refine step_storeV 29 w.heap.size 0 #[.int .i64 x.d.k, .int .i64 x.d.op, .slice x.d.v.a x.d.v.len x.d.v.cap, .int .i64 x.d.t.t.k, .slice x.d.t.t.a x.d.t.t.len x.d.t.t.cap, .int .i64 x.d.t.t.n, .int .i64 x.d.t.t.s, .slice x.d.ka x.d.n x.d.kc] st on ?_
      refine hK.out _ _ ?_ (fun hHeld => ?_)
      · exact ⟨hy6.out, hy8.out⟩
      clear hK K st on hHeld hb2
      try simp only [Act.put]
      generalize w9.drew.setCells w.heap.size 0 [.int .i64 x.d.k, .int .i64 x.d.op, .slice x.d.v.a x.d.v.len x.d.v.cap, .int .i64 x.d.t.t.k, .slice x.d.t.t.a x.d.t.t.len x.d.t.t.cap, .int .i64 x.d.t.t.n, .int .i64 x.d.t.t.s, .slice x.d.ka x.d.n x.d.kc] = W9 at *
      have hHeld : Box W9 b6 [.int .i64 x.d.k, .int .i64 x.d.op, .slice x.d.v.a x.d.v.len x.d.v.cap, .int .i64 x.d.t.t.k, .slice x.d.t.t.a x.d.t.t.len x.d.t.t.cap, .int .i64 x.d.t.t.n, .int .i64 x.d.t.t.s, .slice x.d.ka x.d.n x.d.kc] ∧ Box W9 b8 [.slice (some ⟨G, 0, none⟩) 3 3] := ⟨hy6.out, hy8.out⟩
      refine tqB 4 3 ?_
      have st : W9.there (w.heap.size + 1) 0 1 := HR4.out.there 0 1 (by simp)
      have on : (#[.slice (some ⟨G, 0, none⟩) 3 3] : Array Value).all (·.oneCell') = true := all_oneCell_toArray (cs := [.slice (some ⟨G, 0, none⟩) 3 3]) (by simp [Value.oneCell'])
      have hrd2 : (W9.setCells (w.heap.size + 1) 0 [.slice (some ⟨G, 0, none⟩) 3 3]).rangeAt (w.heap.size + 1) 0 [.slice (some ⟨G, 0, none⟩) 3 3] := World.rangeAt_setCells_same _ _ _ _ st
      have hb3 := but_sets (w.heap.size + 1) [.slice (some ⟨G, 0, none⟩) 3 3] 0 W9
      have hrd1 : (W9.setCells (w.heap.size + 1) 0 [.slice (some ⟨G, 0, none⟩) 3 3]).rangeAt w.heap.size 0 [.int .i64 x.d.k, .int .i64 x.d.op, .slice x.d.v.a x.d.v.len x.d.v.cap, .int .i64 x.d.t.t.k, .slice x.d.t.t.a x.d.t.t.len x.d.t.t.cap, .int .i64 x.d.t.t.n, .int .i64 x.d.t.t.s, .slice x.d.ka x.d.n x.d.kc] := fun j v hv => (hb3.cell (p := ⟨w.heap.size, 0 + j, none⟩) (show w.heap.size ≠ w.heap.size + 1 by omega)).trans (hrd j v hv)
      have hx6 := hid (hHeld.1.upper hb3 (by omega))
      have hx8 := hid (hHeld.2.upper hb3 (by omega))
      clear HE HDn hHeld HR4 hrd hy6 hy8 hb3
      refine rqA 5 fun K hK => ?_
      refine step_storeV 32 (w.heap.size + 1) 0 #[.slice (some ⟨G, 0, none⟩) 3 3] st on ?_
      refine hK.out _ _ ?_ (fun hHeld2 => ?_)
      · exact ⟨hx6.out, hx8.out⟩
      clear hK K st on hHeld2
      try simp only [Act.put]
      generalize W9.setCells (w.heap.size + 1) 0 [.slice (some ⟨G, 0, none⟩) 3 3] = W10 at *
      refine wpAnyH_done (by kernel_rfl) ?_ _
      go_wp2
      try simp only [Exit.inBlock, Exit.then]
      refine bodyPost_ret (v := .tuple #[.agg #[.int .i64 x.d.k, .int .i64 x.d.op, .slice x.d.v.a x.d.v.len x.d.v.cap, .int .i64 x.d.t.t.k, .slice x.d.t.t.a x.d.t.t.len x.d.t.t.cap, .int .i64 x.d.t.t.n, .int .i64 x.d.t.t.s, .slice x.d.ka x.d.n x.d.kc], .slice (some ⟨g9, 0, none⟩) 4 cap9, .agg #[.slice (some ⟨G, 0, none⟩) 3 3]]) ?hre rfl ?hpe
      case hre => exact results_cell3 rfl rfl rfl rfl (run_loadVar_mid (P := Try.prog) _ w.heap.size 0 29 [.int .i64 x.d.k, .int .i64 x.d.op, .slice x.d.v.a x.d.v.len x.d.v.cap, .int .i64 x.d.t.t.k, .slice x.d.t.t.a x.d.t.t.len x.d.t.t.cap, .int .i64 x.d.t.t.n, .int .i64 x.d.t.t.s, .slice x.d.ka x.d.n x.d.kc] _ hrd1 Try.underlying29 rfl (by kernel_rfl)) (run_loadVar_mid (P := Try.prog) _ (w.heap.size + 1) 0 32 [.slice (some ⟨G, 0, none⟩) 3 3] _ hrd2 Try.underlying32 rfl (by kernel_rfl))
      exact HEND.out
    · have cv := conv_oneV w8 w8.heap.size rfl 120
      obtain ⟨i0, hi0, hzz⟩ := Option.map_eq_some_iff.1 infoE8
      simp only [Prod.mk.injEq] at hzz
      obtain ⟨hi2, hi1, hi3⟩ := hzz
      have hgt := HD8.out.gt
      have hW8 : b8 < w8.heap.size := HD8.out.x8.1
      obtain ⟨L, hL1, hL2, hL3, hL4, hL5⟩ := HO2.out.keep (w' := w8) (fun c h1 h2 => HU8.out.u2.block c h1 h2)
      have HL1 := hid hL1
      have HL2 := hid hL2
      have HL5 := hid hL5
      have HB9 : Hid (Below w8.heap.size w8 ((w8.alloc (.cells #[.int .u8 120] 5 (1, 2))).alloc (.cells #[.int .i64 0, .int .i64 0, .slice (some ⟨w8.heap.size, 0, none⟩) 1 1, .int .i64 0, .slice none 0 0, .int .i64 0, .int .i64 0, .slice none 0 0] 29))) := bl_alloc (bl_a _) _
      have HLD : Hid (∀ b, x.d.ka = some b → ∀ j u, ((L.map fun e => e.d.cells).flatten)[j]? = some u → ((w8.alloc (.cells #[.int .u8 120] 5 (1, 2))).alloc (.cells #[.int .i64 0, .int .i64 0, .slice (some ⟨w8.heap.size, 0, none⟩) 1 1, .int .i64 0, .slice none 0 0, .int .i64 0, .int .i64 0, .slice none 0 0] 29)).cell? (b.add j) = some u) := fun b hb j u hu => by
        obtain ⟨h1, h2⟩ := owns_cells hL3 b hb j u hu
        exact (HB9.out.cell h2).trans h1
      have hnone : x.d.ka = none → x.d.n = 0 ∧ x.d.kc = 0 := fun h => by
        rcases hL3.2 with ⟨hv, h0⟩ | ⟨c, c2, c3, hv, _⟩
        · exact ⟨by omega, by omega⟩
        · rw [h] at hv; cases hv
      have hlo : ((L.map fun e => e.d.cells).flatten).length = x.d.n * 8 := by rw [flat_len, hL1]
      have HNW : Hid (∀ j u, ([.int .i64 0, .int .i64 0, .slice (some ⟨w8.heap.size, 0, none⟩) 1 1, .int .i64 0, .slice none 0 0, .int .i64 0, .int .i64 0, .slice none 0 0] : List Value)[j]? = some u → ((w8.alloc (.cells #[.int .u8 120] 5 (1, 2))).alloc (.cells #[.int .i64 0, .int .i64 0, .slice (some ⟨w8.heap.size, 0, none⟩) 1 1, .int .i64 0, .slice none 0 0, .int .i64 0, .int .i64 0, .slice none 0 0] 29)).cell? ((⟨w8.heap.size + 1, 0, none⟩ : Addr).add j) = some u) := fun j u hu => by
        have h := (Box.new (w8.alloc (.cells #[.int .u8 120] 5 (1, 2))) #[.int .i64 0, .int .i64 0, .slice (some ⟨w8.heap.size, 0, none⟩) 1 1, .int .i64 0, .slice none 0 0, .int .i64 0, .int .i64 0, .slice none 0 0] 29 (0, 0)).2 j u hu
        have es : (w8.alloc (.cells #[.int .u8 120] 5 (1, 2))).heap.size = w8.heap.size + 1 := by simp
        have ea : (⟨w8.heap.size + 1, 0, none⟩ : Addr).add j = ⟨w8.heap.size + 1, j, none⟩ := by unfold Addr.add; simp; exact fun h => h.symm
        rw [es] at h
        rw [ea]
        exact h
      have HY9 : Hid (BsF (g + 1) ((w8.alloc (.cells #[.int .u8 120] 5 (1, 2))).alloc (.cells #[.int .i64 0, .int .i64 0, .slice (some ⟨w8.heap.size, 0, none⟩) 1 1, .int .i64 0, .slice none 0 0, .int .i64 0, .int .i64 0, .slice none 0 0] 29)) ⟨some ⟨w8.heap.size, 0, none⟩, 1, 1, [120]⟩) := (OB1 w8 120 5 (g + 1) (by omega) (by omega)).upper (Upper.of_below (bl_a _))
      have HSZ : Hid (((w8.alloc (.cells #[.int .u8 120] 5 (1, 2))).alloc (.cells #[.int .i64 0, .int .i64 0, .slice (some ⟨w8.heap.size, 0, none⟩) 1 1, .int .i64 0, .slice none 0 0, .int .i64 0, .int .i64 0, .slice none 0 0] 29)).heap.size = w8.heap.size + 1 + 1) := (show _ = _ by simp)
      have c67 := (HD8.out.x6.2 7 _ rfl).1
      have hfull : x.d.kc < x.d.n + 1 := by omega
      have hn4 : x.d.n ≤ 4 := hL5
      have hb1 : x.d.n + 1 ≤ maxLen := by unfold maxLen; omega
      have hb2 : (x.d.n + 1) * 112 ≤ 140737488355328 := by omega
      clear hL1 hL2 hL3 hL4 hL5
      go_wp2_with (with_reducible refine wpv_at ?_; refine app_stopV (.tmp 35) (.tmp 39) 27 rfl ?_)
      change wpList _ _ _ _ _ _
      refine wpList_append_grows _ rfl (.tmp 35) (.tmp 39) 27 rfl 29 i0 (.agg #[.int .i64 0, .int .i64 0, .slice none 0 0, .int .i64 0, .slice none 0 0, .int .i64 0, .int .i64 0, .slice none 0 0]) 8 112 Try.underlying27 hi0 hi2 hi1 hi3 rfl (by omega) x.d.ka x.d.n x.d.kc ((L.map fun e => e.d.cells).flatten) rfl hnone hlo HLD.out ⟨w8.heap.size + 1, 0, none⟩ 1 1 [.int .i64 0, .int .i64 0, .slice (some ⟨w8.heap.size, 0, none⟩) 1 1, .int .i64 0, .slice none 0 0, .int .i64 0, .int .i64 0, .slice none 0 0] rfl rfl HNW.out one8 hfull hb1 hb2 ?_
      intro v9 w9 hown hgr
      obtain ⟨g9, cap9, rfl, hBg, hlt⟩ := hown.form (by omega)
      have HOW := hid hown
      have HGR := hid hgr
      have HBn : Hid (Below ((w8.alloc (.cells #[.int .u8 120] 5 (1, 2))).alloc (.cells #[.int .i64 0, .int .i64 0, .slice (some ⟨w8.heap.size, 0, none⟩) 1 1, .int .i64 0, .slice none 0 0, .int .i64 0, .int .i64 0, .slice none 0 0] 29)).heap.size ((w8.alloc (.cells #[.int .u8 120] 5 (1, 2))).alloc (.cells #[.int .i64 0, .int .i64 0, .slice (some ⟨w8.heap.size, 0, none⟩) 1 1, .int .i64 0, .slice none 0 0, .int .i64 0, .int .i64 0, .slice none 0 0] 29)) w9) := ⟨hgr.os, hgr.tape, hgr.output, hgr.size, fun b hb => hgr.block b hb (by simp)⟩
      have HD9 := hid (HD8.out.past (Past.of_below (HB9.out.trans (HBn.out.mono HB9.out.size))))
      have f67 := (HD9.out.x6.2 7 _ rfl).2
      have d67 := (HD9.out.x6.2 7 _ rfl).1
      clear hown hgr c67
      have HBT := hid ((But.refl b6 w9).set 7 (.slice (some ⟨g9, 0, none⟩) (x.d.n + 1) cap9))
      have HX6 := hid (HD9.out.x6.set 7 (.slice (some ⟨g9, 0, none⟩) (x.d.n + 1) cap9))
      have hsz9 : w8.heap.size + 1 + 1 ≤ w9.heap.size := by have h1 := HSZ.out; have h2 := HBn.out.size; omega
      have hg9 : b8 < g9 := by have h1 := HSZ.out; omega
      have HU9 := hid (HU8.out.past (Past.of_below (g := g) (HB9.out.trans (HBn.out.mono HB9.out.size))) (by omega))
      have HUn2 : Hid (Upper (g + 1) w2 (w9.setCell ⟨b6, 7, none⟩ (.slice (some ⟨g9, 0, none⟩) (x.d.n + 1) cap9))) := HU9.out.u2.but_new HBT.out hw2
      have HUn4 : Hid (Upper (b6 + 1) W4 (w9.setCell ⟨b6, 7, none⟩ (.slice (some ⟨g9, 0, none⟩) (x.d.n + 1) cap9))) := HU9.out.u4.but_low HBT.out (Nat.lt_succ_self _)
      have HUn5 : Hid (Upper (b6 + 1) w5 (w9.setCell ⟨b6, 7, none⟩ (.slice (some ⟨g9, 0, none⟩) (x.d.n + 1) cap9))) := HU9.out.u5.but_low HBT.out (Nat.lt_succ_self _)
      have HYn : Hid (BsF (g + 1) (w9.setCell ⟨b6, 7, none⟩ (.slice (some ⟨g9, 0, none⟩) (x.d.n + 1) cap9)) ⟨some ⟨w8.heap.size, 0, none⟩, 1, 1, [120]⟩) := by
        have h1 := HY9.out.upper (Upper.of_below HBn.out)
        have h2 : BsF (b6 + 1) w9 ⟨some ⟨w8.heap.size, 0, none⟩, 1, 1, [120]⟩ := ⟨h1.1, .inr fun p hp => by cases hp; show b6 + 1 ≤ w8.heap.size; omega⟩
        exact (h2.upper ((Upper.refl (b6 + 1) w9).but_low HBT.out (Nat.lt_succ_self _))).base (by omega)
      have HEX := hid (kidE (cap9 := cap9) HX2.out HUn2.out HV2.out HL1.out HL2.out HL5.out (leaf := (ET.mk ⟨0, 0, ⟨some ⟨w8.heap.size, 0, none⟩, 1, 1, [120]⟩, ⟨⟨0, none, 0, 0, 0, 0⟩, []⟩, none, 0, 0⟩ (fun _ => .nil))) (fun j u hu => by
        have hu2 : ((L.map fun e => e.d.cells).flatten ++ ((ET.mk ⟨0, 0, ⟨some ⟨w8.heap.size, 0, none⟩, 1, 1, [120]⟩, ⟨⟨0, none, 0, 0, 0, 0⟩, []⟩, none, 0, 0⟩ (fun _ => .nil))).d.cells)[j]? = some u := by rw [← hu, List.map_append, List.flatten_append]; simp
        obtain ⟨h1, _⟩ := owns_cells HOW.out _ rfl j u hu2
        have ea : (⟨g9, 0, none⟩ : Addr).add j = ⟨g9, j, none⟩ := by unfold Addr.add; simp; exact fun h => h.symm
        rw [ea] at h1
        exact (HBT.out.cell (p := ⟨g9, j, none⟩) (show g9 ≠ b6 by omega)).trans h1) ⟨by omega, by rw [HBT.out.size]; exact hlt⟩ ⟨HYn.out, bsf0 _ _, fits0, Nat.zero_le _, .inl rfl, fun i hi => absurd hi (Nat.not_lt_zero _)⟩ ⟨by omega, Nat.zero_le _, .inr (show [120] ∈ NM by decide), fun i hi => absurd hi (Nat.not_lt_zero _)⟩)
      have HBLn : Hid (Below w.heap.size w (w9.setCell ⟨b6, 7, none⟩ (.slice (some ⟨g9, 0, none⟩) (x.d.n + 1) cap9))) := HD9.out.bl.setCell (p := ⟨b6, 7, none⟩) (by show w.heap.size ≤ b6; omega) _
      go_upto_region 14 with fail
      have HDn : Hid (DV w (w9.setCell ⟨b6, 7, none⟩ (.slice (some ⟨g9, 0, none⟩) (x.d.n + 1) cap9)) g b6 b8 a len cap (ET.mk ⟨x.d.k, x.d.op, x.d.v, x.d.t, some ⟨g9, 0, none⟩, cap9, x.d.n + 1⟩ (fun i => (L ++ [(ET.mk ⟨0, 0, ⟨some ⟨w8.heap.size, 0, none⟩, 1, 1, [120]⟩, ⟨⟨0, none, 0, 0, 0, 0⟩, []⟩, none, 0, 0⟩ (fun _ => .nil))])[i]?.getD .nil)) (some ⟨H + 3, 0, none⟩) 3 3 (varV H) ⟨some ⟨G, 0, none⟩, 3, 3, f⟩) :=
        ⟨HBLn.out, HD9.out.r2.but HBT.out (by omega), HD9.out.r4.but HBT.out (by omega), HX6.out, HD9.out.x8.but HBT.out (by omega), hgt, HEX.out.1, HEX.out.2, ⟨(HV4.out.1.upper HUn4.out).base (by omega), fun i hi => SL.lies.base (SL.lies.upper (HV4.out.2 i hi) HUn4.out) (by omega), by decide⟩, (HS5.out.so.upper HUn5.out).base (by omega)⟩
      obtain ⟨e9, he9⟩ : ∃ e9, e9 = (ET.mk ⟨x.d.k, x.d.op, x.d.v, x.d.t, some ⟨g9, 0, none⟩, cap9, x.d.n + 1⟩ (fun i => (L ++ [(ET.mk ⟨0, 0, ⟨some ⟨w8.heap.size, 0, none⟩, 1, 1, [120]⟩, ⟨⟨0, none, 0, 0, 0, 0⟩, []⟩, none, 0, 0⟩ (fun _ => .nil))])[i]?.getD .nil)) := ⟨_, rfl⟩
      rw [← he9] at HDn
      clear HBT HX6 HU9 HUn2 HUn4 HUn5 HYn HEX HBLn HD9 HOW HGR HBn f67 d67 HB9 HLD HNW HY9 HSZ cv hi0 hi2 hi1 hi3 HD8 HU8 HC8 HBE HO2 HVS HV4 HS5 HS8 hgt hnone hlo hfull hb1 hb2 HL1 HL2 HL5 he9 hsz9 hg9 hBg hlt hn4
      generalize (w9.setCell ⟨b6, 7, none⟩ (.slice (some ⟨g9, 0, none⟩) (x.d.n + 1) cap9)) = w10 at *
      have HE := hid (HDn.out.past (Past.of_below (Below.drew (Below.refl _ _))))
      have hgt := HDn.out.gt
      go_wp2_with fail
      refine wqd (fun w' => Box w' b6 [.int .i64 e9.d.k, .int .i64 e9.d.op, .slice e9.d.v.a e9.d.v.len e9.d.v.cap, .int .i64 e9.d.t.t.k, .slice e9.d.t.t.a e9.d.t.t.len e9.d.t.t.cap, .int .i64 e9.d.t.t.n, .int .i64 e9.d.t.t.s, .slice e9.d.ka e9.d.n e9.d.kc] ∧ Box w' b8 [.slice (some ⟨G, 0, none⟩) 3 3]) ?_ fun hHeld => ?_
      · exact ⟨HE.out.x6.box, HE.out.x8.box⟩
      refine ldq 0 55 Try.underlying29 (fun w' h => h.1.range 0 [.int .i64 e9.d.k, .int .i64 e9.d.op, .slice e9.d.v.a e9.d.v.len e9.d.v.cap, .int .i64 e9.d.t.t.k, .slice e9.d.t.t.a e9.d.t.t.len e9.d.t.t.cap, .int .i64 e9.d.t.t.n, .int .i64 e9.d.t.t.s, .slice e9.d.ka e9.d.n e9.d.kc] rfl) ?_
      refine tqB 1 56 ?_
      refine ldq 2 57 Try.underlying32 (fun w' h => h.2.range 0 [.slice (some ⟨G, 0, none⟩) 3 3] rfl) ?_
      have st : w10.drew.there w.heap.size 0 8 := HE.out.r2.there 0 8 (by simp)
      have on : (#[.int .i64 e9.d.k, .int .i64 e9.d.op, .slice e9.d.v.a e9.d.v.len e9.d.v.cap, .int .i64 e9.d.t.t.k, .slice e9.d.t.t.a e9.d.t.t.len e9.d.t.t.cap, .int .i64 e9.d.t.t.n, .int .i64 e9.d.t.t.s, .slice e9.d.ka e9.d.n e9.d.kc] : Array Value).all (·.oneCell') = true := all_oneCell_toArray (cs := [.int .i64 e9.d.k, .int .i64 e9.d.op, .slice e9.d.v.a e9.d.v.len e9.d.v.cap, .int .i64 e9.d.t.t.k, .slice e9.d.t.t.a e9.d.t.t.len e9.d.t.t.cap, .int .i64 e9.d.t.t.n, .int .i64 e9.d.t.t.s, .slice e9.d.ka e9.d.n e9.d.kc]) (by simp [Value.oneCell'])
      have hrd : (w10.drew.setCells w.heap.size 0 [.int .i64 e9.d.k, .int .i64 e9.d.op, .slice e9.d.v.a e9.d.v.len e9.d.v.cap, .int .i64 e9.d.t.t.k, .slice e9.d.t.t.a e9.d.t.t.len e9.d.t.t.cap, .int .i64 e9.d.t.t.n, .int .i64 e9.d.t.t.s, .slice e9.d.ka e9.d.n e9.d.kc]).rangeAt w.heap.size 0 [.int .i64 e9.d.k, .int .i64 e9.d.op, .slice e9.d.v.a e9.d.v.len e9.d.v.cap, .int .i64 e9.d.t.t.k, .slice e9.d.t.t.a e9.d.t.t.len e9.d.t.t.cap, .int .i64 e9.d.t.t.n, .int .i64 e9.d.t.t.s, .slice e9.d.ka e9.d.n e9.d.kc] := World.rangeAt_setCells_same _ _ _ _ st
      have hb2 := but_sets w.heap.size [.int .i64 e9.d.k, .int .i64 e9.d.op, .slice e9.d.v.a e9.d.v.len e9.d.v.cap, .int .i64 e9.d.t.t.k, .slice e9.d.t.t.a e9.d.t.t.len e9.d.t.t.cap, .int .i64 e9.d.t.t.n, .int .i64 e9.d.t.t.s, .slice e9.d.ka e9.d.n e9.d.kc] 0 w10.drew
      have HR4 := hid (HE.out.r4.but hb2 (by omega))
      have hy6 := hid (HE.out.x6.box.upper hb2 (by omega))
      have hy8 := hid (HE.out.x8.box.upper hb2 (by omega))
      have HEND := hid (dv_end HE.out [.int .i64 e9.d.k, .int .i64 e9.d.op, .slice e9.d.v.a e9.d.v.len e9.d.v.cap, .int .i64 e9.d.t.t.k, .slice e9.d.t.t.a e9.d.t.t.len e9.d.t.t.cap, .int .i64 e9.d.t.t.n, .int .i64 e9.d.t.t.s, .slice e9.d.ka e9.d.n e9.d.kc] [.slice (some ⟨G, 0, none⟩) 3 3])
      refine rqA 3 fun K hK => ?_
      refine step_storeV 29 w.heap.size 0 #[.int .i64 e9.d.k, .int .i64 e9.d.op, .slice e9.d.v.a e9.d.v.len e9.d.v.cap, .int .i64 e9.d.t.t.k, .slice e9.d.t.t.a e9.d.t.t.len e9.d.t.t.cap, .int .i64 e9.d.t.t.n, .int .i64 e9.d.t.t.s, .slice e9.d.ka e9.d.n e9.d.kc] st on ?_
      refine hK.out _ _ ?_ (fun hHeld => ?_)
      · exact ⟨hy6.out, hy8.out⟩
      clear hK K st on hHeld hb2
      try simp only [Act.put]
      generalize w10.drew.setCells w.heap.size 0 [.int .i64 e9.d.k, .int .i64 e9.d.op, .slice e9.d.v.a e9.d.v.len e9.d.v.cap, .int .i64 e9.d.t.t.k, .slice e9.d.t.t.a e9.d.t.t.len e9.d.t.t.cap, .int .i64 e9.d.t.t.n, .int .i64 e9.d.t.t.s, .slice e9.d.ka e9.d.n e9.d.kc] = W9 at *
      have hHeld : Box W9 b6 [.int .i64 e9.d.k, .int .i64 e9.d.op, .slice e9.d.v.a e9.d.v.len e9.d.v.cap, .int .i64 e9.d.t.t.k, .slice e9.d.t.t.a e9.d.t.t.len e9.d.t.t.cap, .int .i64 e9.d.t.t.n, .int .i64 e9.d.t.t.s, .slice e9.d.ka e9.d.n e9.d.kc] ∧ Box W9 b8 [.slice (some ⟨G, 0, none⟩) 3 3] := ⟨hy6.out, hy8.out⟩
      refine tqB 4 3 ?_
      have st : W9.there (w.heap.size + 1) 0 1 := HR4.out.there 0 1 (by simp)
      have on : (#[.slice (some ⟨G, 0, none⟩) 3 3] : Array Value).all (·.oneCell') = true := all_oneCell_toArray (cs := [.slice (some ⟨G, 0, none⟩) 3 3]) (by simp [Value.oneCell'])
      have hrd2 : (W9.setCells (w.heap.size + 1) 0 [.slice (some ⟨G, 0, none⟩) 3 3]).rangeAt (w.heap.size + 1) 0 [.slice (some ⟨G, 0, none⟩) 3 3] := World.rangeAt_setCells_same _ _ _ _ st
      have hb3 := but_sets (w.heap.size + 1) [.slice (some ⟨G, 0, none⟩) 3 3] 0 W9
      have hrd1 : (W9.setCells (w.heap.size + 1) 0 [.slice (some ⟨G, 0, none⟩) 3 3]).rangeAt w.heap.size 0 [.int .i64 e9.d.k, .int .i64 e9.d.op, .slice e9.d.v.a e9.d.v.len e9.d.v.cap, .int .i64 e9.d.t.t.k, .slice e9.d.t.t.a e9.d.t.t.len e9.d.t.t.cap, .int .i64 e9.d.t.t.n, .int .i64 e9.d.t.t.s, .slice e9.d.ka e9.d.n e9.d.kc] := fun j v hv => (hb3.cell (p := ⟨w.heap.size, 0 + j, none⟩) (show w.heap.size ≠ w.heap.size + 1 by omega)).trans (hrd j v hv)
      have hx6 := hid (hHeld.1.upper hb3 (by omega))
      have hx8 := hid (hHeld.2.upper hb3 (by omega))
      clear HE HDn hHeld HR4 hrd hy6 hy8 hb3
      refine rqA 5 fun K hK => ?_
      refine step_storeV 32 (w.heap.size + 1) 0 #[.slice (some ⟨G, 0, none⟩) 3 3] st on ?_
      refine hK.out _ _ ?_ (fun hHeld2 => ?_)
      · exact ⟨hx6.out, hx8.out⟩
      clear hK K st on hHeld2
      try simp only [Act.put]
      generalize W9.setCells (w.heap.size + 1) 0 [.slice (some ⟨G, 0, none⟩) 3 3] = W10 at *
      refine wpAnyH_done (by kernel_rfl) ?_ _
      go_wp2
      try simp only [Exit.inBlock, Exit.then]
      refine bodyPost_ret (v := .tuple #[.agg #[.int .i64 e9.d.k, .int .i64 e9.d.op, .slice e9.d.v.a e9.d.v.len e9.d.v.cap, .int .i64 e9.d.t.t.k, .slice e9.d.t.t.a e9.d.t.t.len e9.d.t.t.cap, .int .i64 e9.d.t.t.n, .int .i64 e9.d.t.t.s, .slice e9.d.ka e9.d.n e9.d.kc], .slice (some ⟨H + 3, 0, none⟩) 3 3, .agg #[.slice (some ⟨G, 0, none⟩) 3 3]]) ?hrf rfl ?hpf
      case hrf => exact results_cell3 rfl rfl rfl rfl (run_loadVar_mid (P := Try.prog) _ w.heap.size 0 29 [.int .i64 e9.d.k, .int .i64 e9.d.op, .slice e9.d.v.a e9.d.v.len e9.d.v.cap, .int .i64 e9.d.t.t.k, .slice e9.d.t.t.a e9.d.t.t.len e9.d.t.t.cap, .int .i64 e9.d.t.t.n, .int .i64 e9.d.t.t.s, .slice e9.d.ka e9.d.n e9.d.kc] _ hrd1 Try.underlying29 rfl (by kernel_rfl)) (run_loadVar_mid (P := Try.prog) _ (w.heap.size + 1) 0 32 [.slice (some ⟨G, 0, none⟩) 3 3] _ hrd2 Try.underlying32 rfl (by kernel_rfl))
      exact HEND.out
    · have hgt := HD8.out.gt
      have HDd := hid (HD8.out.past (Past.of_below (Below.drew (Below.refl _ _))))
      have HUd := hid (HU8.out.past (Past.of_below (g := g) (Below.drew (Below.refl _ _))) (by omega))
      have HSd := hid (HS8.out.below (Below.drew (Below.refl _ _)))
      have HCd := hid (HC8.out.below (Below.drew (Below.refl _ _)))
      go_wp2_with fail
      refine wqd (fun w' => w'.cell? ⟨b8, 0, none⟩ = some (.slice (some ⟨G, 0, none⟩) 3 3)) ?_ fun hHeld => ?_
      · exact (HDd.out.x8.2 0 _ rfl).1
      refine tqB 0 26 ?_
      refine tqB 1 27 (v := .slice (some ⟨G, 0, none⟩) 3 3) (hy := by intro w' hSw; go_simp; (try with_reducible rfl)) ?_
      refine tqB 2 28 ?_
      refine rqA 3 fun K hK => ?_
      go_simp
      refine (HBE.out g _ HCd.out).mono ?_
      rintro r w9 ⟨⟨tk, tn, ts, ta, tl, tc, bs, rfl, hn, hs, _, hT⟩, hP9, _⟩
      have HD9 := hid (HDd.out.past hP9)
      have HU9 := hid (HUd.out.past hP9 (by omega))
      have HS9 := hid (HSd.out.past hP9 (by omega))
      have HT9 : Hid (BsF (b6 + 1) w9 ⟨ta, tl, tc, bs⟩) := hT.bsfB (by have h1 := HDd.out.x8.1; omega)
      have HF9 : Hid ((⟨tk, ta, tl, tc, tn, ts⟩ : Tm).fits) := ⟨hn.1, hn.2, hs.1, hs.2⟩
      have hx9 := (HD9.out.x8.2 0 _ rfl).1
      clear hT hn hs hP9 HDd HUd HSd HCd HD8 HU8 HS8 HC8 HBE hHeld
      go_wp2_with fail
      refine hK.out _ _ ?_ (fun hHeld => ?_)
      · exact hx9
      clear hK K
      try simp only [Act.put, List.setIfInBounds_toArray, List.set_cons_zero, List.set_cons_succ]
      refine tqB 4 30 ?_
      refine tqB 5 31 ?_
      have st : w9.there G 1 4 := HS9.out.ob.there 1 4 (by show 1 + 4 ≤ 15; omega)
      have on : (#[.int .i64 tk, .slice ta tl tc, .int .i64 tn, .int .i64 ts] : Array Value).all (·.oneCell') = true := all_oneCell_toArray (cs := [.int .i64 tk, .slice ta tl tc, .int .i64 tn, .int .i64 ts]) (by simp [Value.oneCell'])
      have HBT := hid (but_sets G [.int .i64 tk, .slice ta tl tc, .int .i64 tn, .int .i64 ts] 1 w9)
      have hGg : G < b8 := hG5
      have HSn := hid (HS9.out.putT ⟨⟨tk, ta, tl, tc, tn, ts⟩, bs⟩ HT9.out HF9.out)
      have hbG : b6 < G := by have := hW4; omega
      have HBLn : Hid (Below w.heap.size w (w9.setCells G 1 [.int .i64 tk, .slice ta tl tc, .int .i64 tn, .int .i64 ts])) := below_sets (w0 := w) G (by omega) _ _ _ HD9.out.bl
      have HUn2 := hid (HU9.out.u2.but_new HBT.out (by omega))
      have HUn4 := hid (HU9.out.u4.but_new HBT.out hG4)
      have HDn : Hid (DV w (w9.setCells G 1 [.int .i64 tk, .slice ta tl tc, .int .i64 tn, .int .i64 ts]) g b6 b8 a len cap x (some ⟨H + 3, 0, none⟩) 3 3 (varV H) ⟨some ⟨G, 0, none⟩, 3, 3, fun j => if j = 0 then ⟨(f 0).has, ⟨⟨tk, ta, tl, tc, tn, ts⟩, bs⟩⟩ else f j⟩) :=
        ⟨HBLn.out, HD9.out.r2.but HBT.out (by omega), HD9.out.r4.but HBT.out (by omega), HD9.out.x6.but HBT.out (by omega), HD9.out.x8.but HBT.out (by omega), hgt, ET.lies.upper HUn2.out HX2.out, HV2.out, ⟨(HV4.out.1.upper HUn4.out).base (by omega), fun i hi => SL.lies.base (SL.lies.upper (HV4.out.2 i hi) HUn4.out) (by omega), by decide⟩, HSn.out.so.base (by omega)⟩
      refine rqA 6 fun K hK => ?_
      refine step_storeV 24 G 1 #[.int .i64 tk, .slice ta tl tc, .int .i64 tn, .int .i64 ts] st on ?_
      refine hK.out _ _ ?_ (fun hHeld => ?_)
      · exact (HDn.out.x8.2 0 _ rfl).1
      clear hK K st on hHeld HBT HSn HBLn HUn2 HUn4 HD9 HU9 HS9 HT9 HF9 hx9 HV4 HS5 HO2 HVS
      try simp only [Act.put]
      generalize w9.setCells G 1 [.int .i64 tk, .slice ta tl tc, .int .i64 tn, .int .i64 ts] = w10 at *
      refine wpAnyH_done (by kernel_rfl) ?_ _
      have HE := hid (HDn.out.past (Past.of_below (Below.drew (Below.refl _ _))))
      have hgt := HDn.out.gt
      go_wp2_with fail
      refine wqd (fun w' => Box w' b6 [.int .i64 x.d.k, .int .i64 x.d.op, .slice x.d.v.a x.d.v.len x.d.v.cap, .int .i64 x.d.t.t.k, .slice x.d.t.t.a x.d.t.t.len x.d.t.t.cap, .int .i64 x.d.t.t.n, .int .i64 x.d.t.t.s, .slice x.d.ka x.d.n x.d.kc] ∧ Box w' b8 [.slice (some ⟨G, 0, none⟩) 3 3]) ?_ fun hHeld => ?_
      · exact ⟨HE.out.x6.box, HE.out.x8.box⟩
      refine ldq 0 55 Try.underlying29 (fun w' h => h.1.range 0 [.int .i64 x.d.k, .int .i64 x.d.op, .slice x.d.v.a x.d.v.len x.d.v.cap, .int .i64 x.d.t.t.k, .slice x.d.t.t.a x.d.t.t.len x.d.t.t.cap, .int .i64 x.d.t.t.n, .int .i64 x.d.t.t.s, .slice x.d.ka x.d.n x.d.kc] rfl) ?_
      refine tqB 1 56 ?_
      refine ldq 2 57 Try.underlying32 (fun w' h => h.2.range 0 [.slice (some ⟨G, 0, none⟩) 3 3] rfl) ?_
      have st : w10.drew.there w.heap.size 0 8 := HE.out.r2.there 0 8 (by simp)
      have on : (#[.int .i64 x.d.k, .int .i64 x.d.op, .slice x.d.v.a x.d.v.len x.d.v.cap, .int .i64 x.d.t.t.k, .slice x.d.t.t.a x.d.t.t.len x.d.t.t.cap, .int .i64 x.d.t.t.n, .int .i64 x.d.t.t.s, .slice x.d.ka x.d.n x.d.kc] : Array Value).all (·.oneCell') = true := all_oneCell_toArray (cs := [.int .i64 x.d.k, .int .i64 x.d.op, .slice x.d.v.a x.d.v.len x.d.v.cap, .int .i64 x.d.t.t.k, .slice x.d.t.t.a x.d.t.t.len x.d.t.t.cap, .int .i64 x.d.t.t.n, .int .i64 x.d.t.t.s, .slice x.d.ka x.d.n x.d.kc]) (by simp [Value.oneCell'])
      have hrd : (w10.drew.setCells w.heap.size 0 [.int .i64 x.d.k, .int .i64 x.d.op, .slice x.d.v.a x.d.v.len x.d.v.cap, .int .i64 x.d.t.t.k, .slice x.d.t.t.a x.d.t.t.len x.d.t.t.cap, .int .i64 x.d.t.t.n, .int .i64 x.d.t.t.s, .slice x.d.ka x.d.n x.d.kc]).rangeAt w.heap.size 0 [.int .i64 x.d.k, .int .i64 x.d.op, .slice x.d.v.a x.d.v.len x.d.v.cap, .int .i64 x.d.t.t.k, .slice x.d.t.t.a x.d.t.t.len x.d.t.t.cap, .int .i64 x.d.t.t.n, .int .i64 x.d.t.t.s, .slice x.d.ka x.d.n x.d.kc] := World.rangeAt_setCells_same _ _ _ _ st
      have hb2 := but_sets w.heap.size [.int .i64 x.d.k, .int .i64 x.d.op, .slice x.d.v.a x.d.v.len x.d.v.cap, .int .i64 x.d.t.t.k, .slice x.d.t.t.a x.d.t.t.len x.d.t.t.cap, .int .i64 x.d.t.t.n, .int .i64 x.d.t.t.s, .slice x.d.ka x.d.n x.d.kc] 0 w10.drew
      have HR4 := hid (HE.out.r4.but hb2 (by omega))
      have hy6 := hid (HE.out.x6.box.upper hb2 (by omega))
      have hy8 := hid (HE.out.x8.box.upper hb2 (by omega))
      have HEND := hid (dv_end HE.out [.int .i64 x.d.k, .int .i64 x.d.op, .slice x.d.v.a x.d.v.len x.d.v.cap, .int .i64 x.d.t.t.k, .slice x.d.t.t.a x.d.t.t.len x.d.t.t.cap, .int .i64 x.d.t.t.n, .int .i64 x.d.t.t.s, .slice x.d.ka x.d.n x.d.kc] [.slice (some ⟨G, 0, none⟩) 3 3])
      refine rqA 3 fun K hK => ?_
      refine step_storeV 29 w.heap.size 0 #[.int .i64 x.d.k, .int .i64 x.d.op, .slice x.d.v.a x.d.v.len x.d.v.cap, .int .i64 x.d.t.t.k, .slice x.d.t.t.a x.d.t.t.len x.d.t.t.cap, .int .i64 x.d.t.t.n, .int .i64 x.d.t.t.s, .slice x.d.ka x.d.n x.d.kc] st on ?_
      refine hK.out _ _ ?_ (fun hHeld => ?_)
      · exact ⟨hy6.out, hy8.out⟩
      clear hK K st on hHeld hb2
      try simp only [Act.put]
      generalize w10.drew.setCells w.heap.size 0 [.int .i64 x.d.k, .int .i64 x.d.op, .slice x.d.v.a x.d.v.len x.d.v.cap, .int .i64 x.d.t.t.k, .slice x.d.t.t.a x.d.t.t.len x.d.t.t.cap, .int .i64 x.d.t.t.n, .int .i64 x.d.t.t.s, .slice x.d.ka x.d.n x.d.kc] = W9 at *
      have hHeld : Box W9 b6 [.int .i64 x.d.k, .int .i64 x.d.op, .slice x.d.v.a x.d.v.len x.d.v.cap, .int .i64 x.d.t.t.k, .slice x.d.t.t.a x.d.t.t.len x.d.t.t.cap, .int .i64 x.d.t.t.n, .int .i64 x.d.t.t.s, .slice x.d.ka x.d.n x.d.kc] ∧ Box W9 b8 [.slice (some ⟨G, 0, none⟩) 3 3] := ⟨hy6.out, hy8.out⟩
      refine tqB 4 3 ?_
      have st : W9.there (w.heap.size + 1) 0 1 := HR4.out.there 0 1 (by simp)
      have on : (#[.slice (some ⟨G, 0, none⟩) 3 3] : Array Value).all (·.oneCell') = true := all_oneCell_toArray (cs := [.slice (some ⟨G, 0, none⟩) 3 3]) (by simp [Value.oneCell'])
      have hrd2 : (W9.setCells (w.heap.size + 1) 0 [.slice (some ⟨G, 0, none⟩) 3 3]).rangeAt (w.heap.size + 1) 0 [.slice (some ⟨G, 0, none⟩) 3 3] := World.rangeAt_setCells_same _ _ _ _ st
      have hb3 := but_sets (w.heap.size + 1) [.slice (some ⟨G, 0, none⟩) 3 3] 0 W9
      have hrd1 : (W9.setCells (w.heap.size + 1) 0 [.slice (some ⟨G, 0, none⟩) 3 3]).rangeAt w.heap.size 0 [.int .i64 x.d.k, .int .i64 x.d.op, .slice x.d.v.a x.d.v.len x.d.v.cap, .int .i64 x.d.t.t.k, .slice x.d.t.t.a x.d.t.t.len x.d.t.t.cap, .int .i64 x.d.t.t.n, .int .i64 x.d.t.t.s, .slice x.d.ka x.d.n x.d.kc] := fun j v hv => (hb3.cell (p := ⟨w.heap.size, 0 + j, none⟩) (show w.heap.size ≠ w.heap.size + 1 by omega)).trans (hrd j v hv)
      have hx6 := hid (hHeld.1.upper hb3 (by omega))
      have hx8 := hid (hHeld.2.upper hb3 (by omega))
      clear HE HDn hHeld HR4 hrd hy6 hy8 hb3
      refine rqA 5 fun K hK => ?_
      refine step_storeV 32 (w.heap.size + 1) 0 #[.slice (some ⟨G, 0, none⟩) 3 3] st on ?_
      refine hK.out _ _ ?_ (fun hHeld2 => ?_)
      · exact ⟨hx6.out, hx8.out⟩
      clear hK K st on hHeld2
      try simp only [Act.put]
      generalize W9.setCells (w.heap.size + 1) 0 [.slice (some ⟨G, 0, none⟩) 3 3] = W10 at *
      refine wpAnyH_done (by kernel_rfl) ?_ _
      go_wp2
      try simp only [Exit.inBlock, Exit.then]
      refine bodyPost_ret (v := .tuple #[.agg #[.int .i64 x.d.k, .int .i64 x.d.op, .slice x.d.v.a x.d.v.len x.d.v.cap, .int .i64 x.d.t.t.k, .slice x.d.t.t.a x.d.t.t.len x.d.t.t.cap, .int .i64 x.d.t.t.n, .int .i64 x.d.t.t.s, .slice x.d.ka x.d.n x.d.kc], .slice (some ⟨H + 3, 0, none⟩) 3 3, .agg #[.slice (some ⟨G, 0, none⟩) 3 3]]) ?hrd rfl ?hpd
      case hrd => exact results_cell3 rfl rfl rfl rfl (run_loadVar_mid (P := Try.prog) _ w.heap.size 0 29 [.int .i64 x.d.k, .int .i64 x.d.op, .slice x.d.v.a x.d.v.len x.d.v.cap, .int .i64 x.d.t.t.k, .slice x.d.t.t.a x.d.t.t.len x.d.t.t.cap, .int .i64 x.d.t.t.n, .int .i64 x.d.t.t.s, .slice x.d.ka x.d.n x.d.kc] _ hrd1 Try.underlying29 rfl (by kernel_rfl)) (run_loadVar_mid (P := Try.prog) _ (w.heap.size + 1) 0 32 [.slice (some ⟨G, 0, none⟩) 3 3] _ hrd2 Try.underlying32 rfl (by kernel_rfl))
      exact HEND.out
end Go.Proofs.Ytidhcbjhggdncaa
