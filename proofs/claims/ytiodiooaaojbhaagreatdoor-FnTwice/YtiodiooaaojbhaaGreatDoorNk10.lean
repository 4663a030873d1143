/- Texts put together: StsK GdrE -/
import Derived.Test.YtiodiooaaojbhaaGreatDoorNk09
import Derived.Deep.AppendLies
import Derived.ChangeKeysEq
import Derived.Deep.Upon
/- StsK -/
namespace Go.Proofs.YtiodiooaaojbhaaGreatDoor
open Go.RowKit Go.Deep Go.Sort Go.Lib
set_option maxRecDepth 100000

theorem flatMap_len {α : Type} (enc : α → List Value) (k : Nat) (hk : ∀ x, (enc x).length = k) (l : List α) : (l.flatMap enc).length = l.length * k := by
  induction l with
  | nil => simp
  | cons x l ih => rw [List.flatMap_cons, List.length_append, ih, hk, List.length_cons, Nat.add_mul, Nat.one_mul, Nat.add_comm]
theorem flatMap_get {α : Type} (enc : α → List Value) (k : Nat) (hk : ∀ x, (enc x).length = k) (l : List α) (i c : Nat) (hi : i < l.length) (hc : c < k) : (l.flatMap enc)[i * k + c]? = (enc l[i])[c]? := by
  induction l generalizing i with
  | nil => cases hi
  | cons x l ih =>
    rw [List.flatMap_cons]
    cases i with
    | zero => rw [List.getElem?_append_left (by rw [hk]; omega)]; simp
    | succ i =>
      rw [List.getElem?_append_right (by rw [hk, Nat.add_mul]; omega)]
      have : (i + 1) * k + c - (enc x).length = i * k + c := by rw [hk, Nat.add_mul]; omega
      rw [this, ih i (by simpa using hi)]
      rfl
theorem flatMap_flatK {α : Type} [Inhabited α] (enc : α → List Value) (k : Nat) (hk : ∀ x, (enc x).length = k) (l : List α) : (flatK enc k l.toArray).toList = l.flatMap enc := by
  apply List.ext_getElem?
  intro j
  by_cases hj : j < l.length * k
  · have k0 : 0 < k := by
      rcases Nat.eq_zero_or_pos k with h | h
      · subst h; omega
      · exact h
    have hi : j / k < l.length := by rw [Nat.div_lt_iff_lt_mul k0]; exact hj
    have hc : j % k < k := Nat.mod_lt _ k0
    have h1 : (flatK enc k l.toArray)[j]! = (enc l.toArray[j / k]!)[j % k]! := get_flatK enc k l.toArray j (by simpa using hj)
    have hjs : j < (flatK enc k l.toArray).size := by rw [size_flatK]; simpa using hj
    rw [getElem!_pos _ j hjs, getElem!_pos l.toArray (j / k) (by simpa using hi)] at h1
    have h2 := flatMap_get enc k hk l (j / k) (j % k) hi hc
    rw [Nat.mul_comm, Nat.div_add_mod] at h2
    rw [h2, Array.getElem?_toList, Array.getElem?_eq_getElem hjs, h1]
    simp only [List.getElem_toArray]
    rw [getElem!_pos _ (j % k) (by rw [hk]; exact hc), List.getElem?_eq_getElem (by rw [hk]; exact hc)]
  · rw [List.getElem?_eq_none (by simp; omega), List.getElem?_eq_none (by rw [flatMap_len enc k hk]; omega)]
/-- A row of the call's own, as the sort wants it. -/
theorem holdsK_own {α : Type} [Inhabited α] (enc : α → List Value) (k : Nat) (hk : ∀ x, (enc x).length = k) {w : World} {g : Nat} {T : TypeId} {cur : Array Value} {l : List α} (hh : w.heap[g]? = some (.cells cur T (0, 0))) (htk : cur.toList.take (l.length * k) = l.flatMap enc) : HoldsK enc k w g 0 l.toArray := by
  intro j hj
  have hj' : j < l.length * k := by simpa using hj
  have hjs : j < (flatK enc k l.toArray).size := hj
  have h1 : (flatK enc k l.toArray).toList[j]? = some (flatK enc k l.toArray)[j]! := by rw [Array.getElem?_toList, Array.getElem?_eq_getElem hjs, getElem!_pos _ j hjs]
  rw [flatMap_flatK enc k hk, ← htk, List.getElem?_take, if_pos hj'] at h1
  refine ⟨?_, ?_⟩
  · simp only [World.cell?, hh, Nat.zero_add]
    simpa using h1
  · simp [World.frozen?, hh]
/-- .. and what the sort has left of it. -/
theorem own_swk {α : Type} [Inhabited α] (enc : α → List Value) (k : Nat) (hk : ∀ x, (enc x).length = k) {w w' : World} {g : Nat} {T : TypeId} {cur : Array Value} {d' : Array α} (S : SWK enc k w g 0 d' w') (hh : w.heap[g]? = some (.cells cur T (0, 0))) (hg : g < w.heap.size) (hsz : d'.size * k ≤ cur.size) :
    ∃ cur', w'.heap[g]? = some (.cells cur' T (0, 0)) ∧ cur'.size = cur.size ∧ cur'.toList.take (d'.size * k) = d'.toList.flatMap enc := by
  obtain ⟨m, os, rfl⟩ := S
  refine ⟨putCells id 0 (flatK enc k d') cur, ?_, by simp [putCells], ?_⟩
  · unfold sortWorldK
    rw [heap_grow_old _ _ (by rw [size_putRowK]; exact hg)]
    show (w.heap.modify g (onCells (putCells id 0 (flatK enc k d'))))[g]? = _
    rw [Array.getElem?_modify, if_pos rfl, hh]
    rfl
  · have e := flatMap_flatK enc k hk d'.toList
    rw [← e]
    apply List.ext_getElem?
    intro j
    rw [List.getElem?_take]
    simp only [Array.toArray_toList]
    split
    · rename_i hj
      have hjs : j < (flatK enc k d').size := by rw [size_flatK]; exact hj
      rw [Array.getElem?_toList, Array.getElem?_toList, Array.getElem?_eq_getElem hjs]
      simp only [putCells, Array.getElem?_mapIdx, Array.getElem?_eq_getElem (show j < cur.size by omega), Option.map_some]
      rw [if_pos (by omega), Nat.sub_zero, getElem!_pos _ j hjs]
      rfl
    · rename_i hj
      rw [List.getElem?_eq_none (by rw [Array.length_toList, size_flatK]; omega)]
/-- Nothing below is changed. -/
theorem below_swk {α : Type} [Inhabited α] (enc : α → List Value) (k : Nat) {w w' : World} {g B : Nat} {d' : Array α} (S : SWK enc k w g 0 d' w') (hB : B ≤ g) (hg : g < w.heap.size) : Below B w w' := by
  have hs := S.le
  obtain ⟨m, os, rfl⟩ := S
  refine ⟨rfl, rfl, rfl, hs, fun b hb => ?_⟩
  unfold sortWorldK
  rw [heap_grow_old _ _ (by rw [size_putRowK]; show b < w.heap.size; omega)]
  show (w.heap.modify g (onCells (putCells id 0 (flatK enc k d'))))[b]? = _
  rw [Array.getElem?_modify, if_neg (by omega)]
/-- The cells of a row of rows of numbers. -/
def flat3 (l : List (Int × Int × Int)) : List Value := l.flatMap encR
theorem flat3_len (l : List (Int × Int × Int)) : (flat3 l).length = l.length * 3 := flatMap_len encR 3 encR_len l
/-- Rows of numbers behind an address. -/
def RRow (w : World) (a : Option Addr) (l : List (Int × Int × Int)) : Prop := (a = none ∧ l = []) ∨ ∃ b off, a = some ⟨b, off, none⟩ ∧ b < w.heap.size ∧ ∀ j u, (flat3 l)[j]? = some u → w.cell? ⟨b, off + j, none⟩ = some u
theorem RRow.below {w w' : World} {a : Option Addr} {l : List (Int × Int × Int)} (h : RRow w a l) (hb : Below w.heap.size w w') : RRow w' a l := by
  rcases h with h | ⟨b, off, ha, hl, hc⟩
  · exact .inl h
  · exact .inr ⟨b, off, ha, Nat.lt_of_lt_of_le hl hb.size, fun j u hu => (hb.cell (p := ⟨b, off + j, none⟩) hl).trans (hc j u hu)⟩
end Go.Proofs.YtiodiooaaojbhaaGreatDoor

/- GdrE -/
namespace Go.Proofs.YtiodiooaaojbhaaGreatDoor
open Go.RowKit Go.Deep
set_option maxRecDepth 100000

/-- A triple with its texts. -/
structure G1 where
  t : Tm
  u : Tm
  v : Tm
  bt : List Int
  bu : List Int
  bv : List Int
def eG (x : G1) : List Value := e12 x.t x.u x.v
theorem eG_len (x : G1) : (eG x).length = 12 := rfl
def flatG (l : List G1) : List Value := l.flatMap eG
theorem flatG_len (l : List G1) : (flatG l).length = l.length * 12 := flatMap_len eG 12 eG_len l
theorem flatG_append (l m : List G1) : flatG (l ++ m) = flatG l ++ flatG m := by simp [flatG]
theorem flatG_get (l : List G1) (i c : Nat) (hi : i < l.length) (hc : c < 12) : (flatG l)[i * 12 + c]? = (eG l[i])[c]? := flatMap_get eG 12 eG_len l i c hi hc
theorem flatG_one (l : List G1) : ∀ u ∈ flatG l, u.oneCell' = true := by
  intro u hu
  obtain ⟨x, _, hx⟩ := List.mem_flatMap.1 hu
  simp only [eG, e12, List.mem_cons, List.not_mem_nil, or_false] at hx
  rcases hx with rfl | rfl | rfl | rfl | rfl | rfl | rfl | rfl | rfl | rfl | rfl | rfl <;> rfl
theorem flatG_piece {l : List G1} {f m j : Nat} {u : Value} (hu : (flatG ((l.drop f).take m))[j]? = some u) : (flatG l)[f * 12 + j]? = some u := by
  have hj : j < ((l.drop f).take m).length * 12 := by
    have := (List.getElem?_eq_some_iff.1 hu).1
    rwa [flatG_len] at this
  have hi : j / 12 < ((l.drop f).take m).length := by omega
  have hi' := hi
  rw [List.length_take, List.length_drop] at hi'
  have hc : j % 12 < 12 := Nat.mod_lt _ (by omega)
  have e : j = j / 12 * 12 + j % 12 := by omega
  rw [e, flatG_get _ _ _ hi hc] at hu
  have e2 : f * 12 + j = (f + j / 12) * 12 + j % 12 := by omega
  rw [e2, flatG_get l (f + j / 12) (j % 12) (by omega) hc]
  simpa using hu
/-- A row of triples of the call's own, or none as yet. -/
def OwnG (w : World) (B : Nat) (v : Value) (l : List G1) : Prop := w.ownsRow B 45 12 v l.length (flatG l) ∧ ∀ g, v.ownBlock = some g → B ≤ g ∧ g < w.heap.size
theorem OwnG.nil (w : World) (B : Nat) : OwnG w B (.slice none 0 0) [] := ⟨World.ownsRow_nil _ _ _ _, fun g h => by cases h⟩
theorem OwnG.past {w w' : World} {B g : Nat} {v : Value} {l : List G1} (h : OwnG w B v l) (hp : Past g w w') (hg : g < B) : OwnG w' B v l := by
  obtain ⟨⟨h1, h2⟩, hl⟩ := h
  refine ⟨⟨h1, ?_⟩, fun c hc => ⟨(hl c hc).1, Nat.lt_of_lt_of_le (hl c hc).2 hp.size⟩⟩
  rcases h2 with h2 | ⟨g', cap', cur, hv, hB, hh, r⟩
  · exact .inl h2
  · refine .inr ⟨g', cap', cur, hv, hB, ?_, r⟩
    rw [hp.block g' (hl g' (by rw [hv]; rfl)).2 (by omega)]
    exact hh
theorem OwnG.below {w w' : World} {B : Nat} {v : Value} {l : List G1} (h : OwnG w B v l) (hb : Below w.heap.size w w') : OwnG w' B v l := by
  obtain ⟨⟨h1, h2⟩, hl⟩ := h
  refine ⟨⟨h1, ?_⟩, fun c hc => ⟨(hl c hc).1, Nat.lt_of_lt_of_le (hl c hc).2 hb.size⟩⟩
  rcases h2 with h2 | ⟨g', cap', cur, hv, hB, hh, r⟩
  · exact .inl h2
  · refine .inr ⟨g', cap', cur, hv, hB, ?_, r⟩
    rw [hb.block g' (hl g' (by rw [hv]; rfl)).2]
    exact hh
theorem OwnG.base {w : World} {B B' : Nat} {v : Value} {l : List G1} (h : OwnG w B' v l) (hB : B ≤ B') : OwnG w B v l := by
  obtain ⟨⟨h1, h2⟩, hl⟩ := h
  refine ⟨⟨h1, ?_⟩, fun c hc => ⟨Nat.le_trans hB (hl c hc).1, (hl c hc).2⟩⟩
  rcases h2 with h2 | ⟨g', cap', cur, hv, hb, r⟩
  · exact .inl h2
  · exact .inr ⟨g', cap', cur, hv, Nat.le_trans hB hb, r⟩
/-- Its form: nil, or a block whose cells are the triples'. -/
theorem OwnG.form {w : World} {B : Nat} {v : Value} {l : List G1} (h : OwnG w B v l) : (v = .slice none 0 0 ∧ l = []) ∨ ∃ g cap, v = .slice (some ⟨g, 0, none⟩) l.length cap ∧ B ≤ g ∧ g < w.heap.size ∧ l.length ≤ cap ∧ ∀ j u, (flatG l)[j]? = some u → w.cell? ⟨g, j, none⟩ = some u := by
  rcases h.1.2 with ⟨hv, h0⟩ | ⟨g, cap, cur, hv, hB, hh, hle, _, hsz, htk⟩
  · exact .inl ⟨hv, List.eq_nil_of_length_eq_zero h0⟩
  · refine .inr ⟨g, cap, hv, hB, (h.2 g (by rw [hv]; rfl)).2, hle, fun j u hu => ?_⟩
    have hj := (List.getElem?_eq_some_iff.1 hu).1
    rw [flatG_len] at hj
    rw [← htk, List.getElem?_take, if_pos hj] at hu
    simp only [World.cell?, hh]
    simpa using hu
theorem flatG_cells {l : List G1} {w : World} {g off : Nat} (h : ∀ j u, (flatG l)[j]? = some u → w.cell? ⟨g, off + j, none⟩ = some u) {i : Nat} {x : G1} (hx : l[i]? = some x) : ∀ c y, (e12 x.t x.u x.v)[c]? = some y → w.cell? ⟨g, off + i * 12 + c, none⟩ = some y := by
  intro c y hy
  obtain ⟨hi, rfl⟩ := List.getElem?_eq_some_iff.1 hx
  have hc : c < 12 := (List.getElem?_eq_some_iff.1 hy).1
  have := h (i * 12 + c) y (by rw [flatG_get l i c hi hc]; exact hy)
  rwa [← Nat.add_assoc] at this

theorem Tryz.infoG45 : (Tryz.prog.info? 45).map (fun i => (i.zero, i.size, i.bytes)) = some (some (.agg #[.int .i64 0, .slice none 0 0, .int .i64 0, .int .i64 0, .int .i64 0, .slice none 0 0, .int .i64 0, .int .i64 0, .int .i64 0, .slice none 0 0, .int .i64 0, .int .i64 0]), 12, 144) := by kernel_rfl
/-- append of triples to a row of the call's own. -/
theorem appGs {ops : Array Oper} {rest : List Oper} {o : Oper} {a : Act} {Q : Exit → Act → World → Prop} {w : World} (hgd : o.guard = none) (s x : Operand)
    (ho : o.op = .call { callee := .builtin .append, args := #[s, x], argTypes := #[23, 23] })
    (B : Nat) (v : Value) (us : List G1) (hs : a.eval s = v) (HO : Hid (OwnG w B v us))
    (ad : Addr) (m c : Nat) (bs : List G1) (hx : a.eval x = .slice (some ad) m c) (hl : bs.length = m) (HN : Hid (∀ j u, (flatG bs)[j]? = some u → w.cell? (ad.add j) = some u))
    (hm : 0 < m) (N : Nat) (hN : us.length + m = N) (zs : List G1) (hz : us ++ bs = zs) (hle : N ≤ 1000000000) (hB : B ≤ w.heap.size)
    (h : ∀ g cap w', Hid (OwnG w' B (.slice (some ⟨g, 0, none⟩) N cap) zs) → Hid (w.grownBy w' v.ownBlock) → Hid (Below B w w') → wpList Tryz.prog ops Q rest (a.put o.dst (.slice (some ⟨g, 0, none⟩) N cap)) w') :
    wpList Tryz.prog ops Q (o :: rest) a w := by
  obtain ⟨i0, hi0, hzz⟩ := Option.map_eq_some_iff.1 Tryz.infoG45
  simp only [Prod.mk.injEq] at hzz
  obtain ⟨hi2, hi1, hi3⟩ := hzz
  subst hN hz
  refine wpList_append_lies _ hgd s x 23 ho B 45 i0 _ 12 144 Tryz.underlying23 hi0 hi2 hi1 hi3 rfl (by omega) v us.length (flatG us) hs HO.out.1 ad m c (flatG bs) hx (by rw [flatG_len, hl]) HN.out (flatG_one bs) hm (by unfold maxLen; omega) (by omega) hB _ rfl ?_
  intro g cap w' hown hgr hat hlt
  have hown' : w'.ownsRow B 45 12 (.slice (some ⟨g, 0, none⟩) (us.length + m) cap) (us ++ bs).length (flatG (us ++ bs)) := by
    rw [flatG_append, List.length_append, hl]
    exact hown
  refine h g cap w' ⟨hown', fun g' hg' => ?_⟩ hgr ?_
  · have : g = g' := by simpa [Value.ownBlock] using hg'
    subst this
    rcases hown.2 with ⟨hv, _⟩ | ⟨g0, c0, cur, hv, hb, _⟩
    · cases hv
    · cases hv; exact ⟨hb, hlt⟩
  · rcases HO.out.1.2 with ⟨hv, _⟩ | ⟨g0, c0, cur, hv, hb, _⟩
    · subst hv
      exact ⟨hgr.os, hgr.tape, hgr.output, hgr.size, fun b hb => hgr.block b (by omega) (by simp [Value.ownBlock])⟩
    · subst hv
      exact ⟨hgr.os, hgr.tape, hgr.output, hgr.size, fun b hb' => hgr.block b (by omega) (by intro e; have : b = g0 := (by simpa [Value.ownBlock] using e); omega)⟩
/-- append of no triples. -/
theorem appG0 {ops : Array Oper} {rest : List Oper} {o : Oper} {a : Act} {Q : Exit → Act → World → Prop} {w : World} (hgd : o.guard = none) (s x : Operand)
    (ho : o.op = .call { callee := .builtin .append, args := #[s, x], argTypes := #[23, 23] })
    (base : Option Addr) (n c : Nat) (hnc : n ≤ c) (hs : a.eval s = .slice base n c) (y : Option Addr) (c' : Nat) (hx : a.eval x = .slice y 0 c')
    (h : wpList Tryz.prog ops Q rest (a.put o.dst (.slice base n c)) w) : wpList Tryz.prog ops Q (o :: rest) a w := by
  obtain ⟨i0, hi0, hzz⟩ := Option.map_eq_some_iff.1 Tryz.infoG45
  refine wpList_plain hgd fun _ hK => ?_
  have hsrc : Src Tryz.prog i0.size 23 (.slice y 0 c') 0 [] w := by
    refine ⟨.inl ⟨_, Tryz.underlying23⟩, fun w' => by simp [Builtin.lenOf], ?_, ?_, by simp, fun u hu => by cases hu⟩
    · cases y with
      | none => simp [Builtin.firstCells]
      | some a => simp [Builtin.firstCells]; rfl
    · cases y with
      | none => simp [Builtin.firstCells]
      | some a => simp [Builtin.firstCells]; rfl
  have hr := run_append_nothing (P := Tryz.prog) w 23 23 o.type 45 i0 Tryz.underlying23 hi0 base n c hnc (.slice y 0 c') hsrc
  unfold Oper.wp execOp
  simp only [ho, resolve, invoke, builtin, Sem.run_bind, Sem.run_pure, Result.andThen_ok, List.map_toArray, List.map_cons, List.map_nil, hs, hx, hr]
  exact hK _ _ h
end Go.Proofs.YtiodiooaaojbhaaGreatDoor
