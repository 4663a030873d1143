/- Texts put together: RdO RdP -/
import Derived.Test.YtoclingolfdfeaaGreatDoorMk13
import Derived.Test.YtoclingolfdfeaaGreatDoorMk03
/- RdO -/
namespace Go.Proofs.YtoclingolfdfeaaGreatDoor
open Go.RowKit Go.Deep Go.Shelf
set_option maxRecDepth 100000
attribute [local go_sem] Oper.semAt_some

theorem tokLaw {g : Operand} {ps : Array Tmp} {assign body : Go.Code} {Q : Exit → Act → World → Prop} {a : Act} {W w0 : World} {rb rd tb : Nat} {n : Int} {s : ByteArray} {m : Nat}
    (hg : a.eval g = .func (.func 95) #[] #[.pointer (some ⟨tb, 0, none⟩)]) (hs : s.size ≤ 1048576) (hT : Tab w0) (hE : Errs w0) (h0 : RS w0 rb rd n W (.slice none 0 0) []) (htx : W.cell? ⟨tb, 0, none⟩ = some (.string s)) (htl : tb < W.heap.size) (htn : tb ≠ rd)
    (hround : ∀ (fn : FuncId) (rec : Loop), rec = { state := .ready, pending := none, fn, tmps := a.tmps, params := ps, assign, body, defers := W.heap.size } → RoundOk w0 rb rd tb (W.heap.size + 1) W.heap.size rec n s (m - 1 - 1))
    (hdone : ∀ (W' : World) (v : Value) (L : List TV), RS w0 rb rd n W' v L → lexR (numsOf s) 0 = .ok (L.map TV.pt) → W'.heap[W.heap.size]? = some (.deferred (some [])) → Q .normal { a with defers := { target := .collected W.heap.size, args := #[] } :: a.defers } W')
    (hbad : ∀ (W' : World) (v : Value) (L : List TV) (p : Nat), RS w0 rb rd n W' v L → lexR (numsOf s) 0 = .error p → W'.heap[W.heap.size]? = some (.deferred (some [])) → Q (.panic [{ v := .iface 59 (.agg #[.int .i64 2, .int .i64 p]), recovered := false }]) { a with defers := { target := .collected W.heap.size, args := #[] } :: a.defers } W') :
    (Code.rangeFunc g ps assign body).wpIn Fence.wide m Tryz.prog Q a W := by
  refine wpIn_rangeFunc ?_
  intro fn _
  obtain ⟨rec, hrec⟩ : ∃ rec : Loop, rec = { state := .ready, pending := none, fn, tmps := a.tmps, params := ps, assign, body, defers := W.heap.size } := ⟨_, rfl⟩
  have hrd := hround fn rec hrec
  have hen : (Instr.enterLoop fn a.tmps ps assign body Fence.wide.round).run Tryz.prog W = .ok (W.heap.size + 1, [{ target := .collected W.heap.size, args := #[] }]) ((W.alloc (.deferred (some []))).alloc (.loop rec)) := by
    rw [hrec]
    exact run_enterLoop_outer _ _ _ _ _
  have hbl : Below W.heap.size W ((W.alloc (.deferred (some []))).alloc (.loop rec)) := bl_alloc (bl_a _) _
  have hL1 : ((W.alloc (.deferred (some []))).alloc (.loop rec)).heap[W.heap.size + 1]? = some (.loop rec) := by
    have := World.alloc_heap_new (W.alloc (.deferred (some []))) (.loop rec)
    rwa [World.size_alloc] at this
  have hK1 : ((W.alloc (.deferred (some []))).alloc (.loop rec)).heap[W.heap.size]? = some (.deferred (some [])) :=
    (Below.heap_alloc _ _ _ (by simp)).trans (World.alloc_heap_new W _)
  generalize (W.alloc (.deferred (some []))).alloc (.loop rec) = W1 at *
  have hJ : RJ w0 rb rd tb (W.heap.size + 1) W.heap.size rec n s W1 (.slice none 0 0) [] :=
    ⟨h0.below hbl, hL1, hK1, (hbl.cell (p := ⟨tb, 0, none⟩) htl).trans htx, Nat.lt_of_lt_of_le htl hbl.size, htn, fun e => by cases e⟩
  have hci := tokIter w0 W1 rb rd tb (W.heap.size + 1) W.heap.size rec n s hs hT hE (m - 1) hrd hJ
  refine ⟨W.heap.size + 1, [{ target := .collected W.heap.size, args := #[] }], W1, { target := .fn (.func 95) #[.pointer (some ⟨tb, 0, none⟩)], args := #[.func (.yield (W.heap.size + 1)) #[] #[]] }, W1, 95, #[.func (.yield (W.heap.size + 1)) #[] #[], .pointer (some ⟨tb, 0, none⟩)], W1, hen, ?_, fun _ _ => trivial, ?_, fun hz => Bool.noConfusion hz, ?_⟩
  · simp only [resolve, hg]
    simp [go_sem]
  · simp [invoke, go_sem]
  · refine hci.mono ?_
    rintro e W2 (⟨v, L, hJ2, hlx, rfl⟩ | ⟨v, L, p, hJ2, hlx, rfl⟩)
    · have hcs : CellsSame W2 (W2.putObj (W.heap.size + 1) (.loop { rec with state := .exhausted, pending := none })) := CellsSame.putObj hJ2.lp rfl _
      have hw0 : w0.heap.size ≤ W.heap.size + 1 := by
        have := h0.hd
        have := h0.ld
        omega
      have hrun := run_endLoop (P := Tryz.prog) hJ2.lp (by rw [hrec]; simp)
      have hpe : rec.pending = none := by rw [hrec]
      rw [hpe] at hrun
      refine ⟨none, _, hrun, ?_⟩
      refine hdone _ v L (hJ2.rs.same hcs (below_putObj hJ2.rs.bel hw0 _)) hlx ?_
      exact (World.putObj_heap_other (by omega)).trans hJ2.df
    · exact hbad W2 v L p hJ2.rs hlx hJ2.df

theorem KeptK.drew0 (r l : Nat) (row : Option Nat) (w : World) : KeptK r l row w w.drew := ⟨Nat.le_refl _, fun _ _ _ _ _ => rfl⟩
theorem KeptK.alloc {r l : Nat} {row : Option Nat} {w w' : World} (h : KeptK r l row w w') (o : Obj) : KeptK r l row w (w'.alloc o) :=
  ⟨Nat.le_trans h.size (by simp), fun b h1 h2 h3 h4 => ((bl_a o).block b (Nat.lt_of_lt_of_le h1 h.size)).trans (h.block b h1 h2 h3 h4)⟩
theorem KeptK.grown {r l : Nat} {row : Option Nat} {w w' w'' : World} (h : KeptK r l row w w') (hg : w'.grownBy w'' row) : KeptK r l row w w'' :=
  ⟨Nat.le_trans h.size hg.size, fun b h1 h2 h3 h4 => (hg.block b (Nat.lt_of_lt_of_le h1 h.size) h4).trans (h.block b h1 h2 h3 h4)⟩
theorem KeptK.set {r l : Nat} {row : Option Nat} {w w' : World} (h : KeptK r l row w w') (i : Nat) (v : Value) : KeptK r l row w (w'.setCell ⟨r, i, none⟩ v) :=
  ⟨by simpa [World.setCell] using h.size, fun b h1 h2 h3 h4 => (Below.heap_setCell _ _ _ _ h2).trans (h.block b h1 h2 h3 h4)⟩
theorem RS.grownZ {w0 W w9 : World} {rb rd : Nat} {n : Int} {v : Value} {L : List TV} {o : Obj} (h : RS w0 rb rd n W v L) (hg : (W.drew.alloc o).grownBy w9 v.ownBlock) : w9.cell? ⟨rd, 0, none⟩ = some v ∧ w9.frozen? ⟨rd, 0, none⟩ = false ∧ w9.cell? ⟨rd, 1, none⟩ = some (.int .i64 0) ∧ w9.cell? ⟨rd, 2, none⟩ = some (.int .i64 n) ∧ w9.frozen? ⟨rd, 1, none⟩ = false := by
  have hb : w9.heap[rd]? = W.heap[rd]? := (hg.block rd (by have := h.ld; simp; omega) h.nd).trans ((bl_a (w := W.drew) o).block rd h.ld)
  refine ⟨(World.cell?_of_block (w := W) (a := ⟨rd, 0, none⟩) hb).trans h.r0, (World.frozen?_of_block (w := W) (a := ⟨rd, 0, none⟩) hb).trans h.f0, (World.cell?_of_block (w := W) (a := ⟨rd, 1, none⟩) hb).trans h.r1, (World.cell?_of_block (w := W) (a := ⟨rd, 2, none⟩) hb).trans h.r2, (World.frozen?_of_block (w := W) (a := ⟨rd, 1, none⟩) hb).trans h.f1⟩
/-- A text stays where a row that holds no bytes is written. -/
theorem nw_row {W W' : World} {B len : Nat} {a : Option Addr} {bs : List Int} (h : Nw W B a len bs) (hs : W.heap.size ≤ W'.heap.size) (X : Nat → Prop) (hX : ∀ b, X b → ∀ v, W.cell? ⟨b, 0, none⟩ ≠ some (.int .u8 v)) (hk : ∀ b, b < W.heap.size → ¬ X b → W'.heap[b]? = W.heap[b]?) : Nw W' B a len bs := by
  rcases h with h | ⟨g, rfl, hB, ho⟩
  · exact .inl h
  · obtain ⟨⟨h1, h2, h3, h4⟩, h5, h6, h7⟩ := ho
    by_cases h0 : len = 0
    · subst h0
      exact .inr ⟨g, rfl, hB, ⟨h1, h2, h3, .inl rfl⟩, Nat.lt_of_lt_of_le h5 hs, fun i hi => by omega, fun i hi => by omega⟩
    · have hx : ¬ X g := fun hx => by
        obtain ⟨v, hv⟩ := h6 0 (by omega)
        exact hX g hx v hv
      have hb := hk g h5 hx
      have hc : ∀ i, W'.cell? ⟨g, i, none⟩ = W.cell? ⟨g, i, none⟩ := fun i => World.cell?_of_block (w := W) (a := ⟨g, i, none⟩) hb
      refine .inr ⟨g, rfl, hB, ⟨h1, h2, h3, ?_⟩, Nat.lt_of_lt_of_le h5 hs, fun i hi => ?_, fun i hi => ?_⟩
      · rcases h4 with h4 | ⟨b, off, e, hl, hcc⟩
        · exact .inl h4
        · cases e
          exact .inr ⟨g, 0, rfl, Nat.lt_of_lt_of_le hl hs, fun i hi => (hc _).trans (hcc i hi)⟩
      · obtain ⟨v, hv⟩ := h6 i hi
        exact ⟨v, (hc i).trans hv⟩
      · exact (World.frozen?_of_block (w := W) (a := ⟨g, i, none⟩) hb).trans (h7 i hi)
theorem RS.appended {w0 W w9 : World} {rb rd g9 c9 : Nat} {n : Int} {v : Value} {L : List TV} {x : TV} {o : Obj} (act : Act) (h : RS w0 rb rd n W v L) (hnw : Nw W w0.heap.size x.t.t.a x.t.t.len x.t.b) (hap : ∀ y ∈ L, Apart y x)
    (h1 : OwnK w9 w0.heap.size (.slice (some ⟨g9, 0, none⟩) (L.length + 1) c9) (L ++ [x])) (h2 : (W.drew.alloc o).grownBy w9 v.ownBlock) (h3 : v.ownBlock = some g9 ∨ g9 = (W.drew.alloc o).heap.size) :
    rdPost w0 rb rd n v (L ++ [x]) W .normal act (w9.setCell ⟨rd, 0, none⟩ (.slice (some ⟨g9, 0, none⟩) (L.length + 1) c9)) := by
  have hZ := h.grownZ h2
  have hs9 : W.heap.size + 1 ≤ w9.heap.size := by have := h2.size; simpa using this
  have hld := h.ld
  have hlb := h.lb
  have hgd : g9 ≠ rd := by
    rcases h3 with e | e
    · intro e2
      subst e2
      exact h.nd e.symm
    · simp at e
      omega
  have hgb : g9 ≠ rb := by
    rcases h3 with e | e
    · intro e2
      subst e2
      exact h.nb e.symm
    · simp at e
      omega
  have hk : KeptK rd rd v.ownBlock W (w9.setCell ⟨rd, 0, none⟩ (.slice (some ⟨g9, 0, none⟩) (L.length + 1) c9)) := (((KeptK.drew0 _ _ _ _).alloc _).grown h2).set 0 _
  have hrow : ∀ g, v.ownBlock = some g → ∀ u, W.cell? ⟨g, 0, none⟩ ≠ some (.int .u8 u) := fun g hg u => by
    rcases h.own.form with ⟨rfl, _⟩ | ⟨g', cap', hv, _, _, _, hc⟩
    · cases hg
    · have : g' = g := by rw [hv] at hg; simpa [Value.ownBlock] using hg
      subst this
      cases L with
      | nil =>
        rw [h.emp rfl] at hg
        cases hg
      | cons y L =>
        rw [hc 0 (.int .i64 y.kind) rfl]
        simp
  have hT : ∀ {a : Option Addr} {len : Nat} {bs : List Int}, Nw W w0.heap.size a len bs → Nw (w9.setCell ⟨rd, 0, none⟩ (.slice (some ⟨g9, 0, none⟩) (L.length + 1) c9)) w0.heap.size a len bs := fun hq =>
    nw_row hq hk.size (fun b => b = rd ∨ v.ownBlock = some b) (fun b hb u => by
      rcases hb with rfl | hb
      · rw [h.r0]
        rcases h.own.form with ⟨rfl, _⟩ | ⟨g', cap', rfl, _⟩ <;> simp
      · exact hrow b hb u) (fun b hb hn => hk.block b hb (fun e => hn (.inl e)) (fun e => hn (.inl e)) (fun e => hn (.inr e.symm)))
  have b1 : Below w0.heap.size w0 (W.drew.alloc o) := (Below.drew h.bel).alloc (by have := h.hd; simp; omega) o
  have b2 : Below w0.heap.size w0 w9 := b1.grown h2 (by have := h.hd; simp; omega) (fun k e => (h.own.2 k e).1)
  have b3 := b2.setCell (p := ⟨rd, 0, none⟩) h.hd (.slice (some ⟨g9, 0, none⟩) (L.length + 1) c9)
  have hsz : (w9.setCell ⟨rd, 0, none⟩ (.slice (some ⟨g9, 0, none⟩) (L.length + 1) c9)).heap.size = w9.heap.size := by simp [World.setCell]
  refine ⟨_, ⟨(hk.cell hlb h.ne h.ne h.nb).trans h.box, set_same hZ.1, (set_other (by omega)).trans hZ.2.2.1, (set_other (by omega)).trans hZ.2.2.2.1, by rw [World.frozen?_setCell]; exact hZ.2.1, by rw [World.frozen?_setCell]; exact hZ.2.2.2.2, by omega, by omega, h.ne, fun e => ?_, fun e => ?_, fun e => ?_, h.hd, ?_, fun y hy => ?_, ?_, b3⟩, hk, ?_⟩
  · exact hgb (by simpa [Value.ownBlock] using e.symm)
  · exact hgd (by simpa [Value.ownBlock] using e.symm)
  · simp at e
  · refine h1.same (by omega) fun g hg => Below.heap_setCell _ _ _ _ ?_
    have : g9 = g := by simpa [Value.ownBlock] using hg
    show g ≠ rd
    omega
  · rcases List.mem_append.1 hy with hy | hy
    · exact hT (h.txt y hy)
    · rw [List.mem_singleton.1 hy]
      exact hT hnw
  · rw [List.pairwise_append]
    exact ⟨h.sep, List.pairwise_singleton _ _, fun y hy z hz => by rw [List.mem_singleton.1 hz]; exact hap y hy⟩
  · rcases h3 with e | e
    · exact .inl e.symm
    · refine .inr ⟨g9, rfl, ?_⟩
      simp at e
      omega

/-- A reader that has all its tokens. -/
structure Rdr (w0 : World) (rd : Nat) (next : Nat) (n : Int) (W : World) (v : Value) (L : List TV) : Prop where
  r0 : W.cell? ⟨rd, 0, none⟩ = some v
  r1 : W.cell? ⟨rd, 1, none⟩ = some (.int .i64 next)
  r2 : W.cell? ⟨rd, 2, none⟩ = some (.int .i64 n)
  f1 : W.frozen? ⟨rd, 1, none⟩ = false
  ld : rd < W.heap.size
  nd : some rd ≠ v.ownBlock
  hd : w0.heap.size ≤ rd
  own : OwnK W w0.heap.size v L
  txt : ∀ x ∈ L, Nw W w0.heap.size x.t.t.a x.t.t.len x.t.b
  sep : L.Pairwise Apart
  bel : Below w0.heap.size w0 W
/-- What readerOf comes to. -/
def ReadRes (bs : List Int) (n : Nat) (w : World) (e : Ending) (w' : World) : Prop :=
  (∃ rd v L, Rdr w rd 0 n w' v L ∧ lexR bs 0 = .ok (L.map TV.pt) ∧ e = .returned (.pointer (some ⟨rd, 0, none⟩))) ∨ (∃ p : Nat, lexR bs 0 = .error p ∧ e = refused 2 p ∧ Below w.heap.size w w')
theorem tokens_any (s : ByteArray) (w : World) : Calls Tryz.prog 68 #[.string s] w fun e w' => e = .returned (.func (.func 95) #[] #[.pointer (some ⟨w.heap.size, 0, none⟩)]) ∧ w' = w.alloc (.cells #[.string s] 9) := by
  have hmf : ∀ (fn : Fn) (first cap : Array Value) (w : World), (Instr.makeFunc fn first cap).run Tryz.prog w = .ok (.func fn first cap) w := fun _ _ _ _ => rfl
  go_enter Tryz.func68, Tryz.ntmps68
  go_wp2_with fail
  go_ret
  exact ⟨rfl, rfl⟩
theorem readerLong (a : Option Addr) (len cap : Nat) (most : Nat) (w : World) (h : most < len) :
    Calls Tryz.prog 39 #[.slice a len cap, .int .i64 most] w fun e w' => e = refused 1 0 ∧ w' = w := by
  unfold refused
  refine (callsIn_wide (n := 6)).1 ?_
  refine callsIn_of_wp Tryz.func39 rfl trivial ?_ rfl
  simp only [Tryz.ntmps39, List.size_toArray, List.length_cons, List.length_nil, Nat.reduceAdd, Nat.reduceSub, Array.replicate_succ, Array.replicate_zero, List.push_toArray, List.append_toArray, List.nil_append, List.cons_append]
  refine wpIn_wide.2 ?_
  go_wp2_with fail
  exact ⟨rfl, rfl, rfl⟩

set_option maxHeartbeats 4000000 in
theorem readerOf_any (a : Option Addr) (len cap : Nat) (bs : List Int) (most : Nat) (w : World) (hB : Bs w a len bs) (hm : len ≤ most) (hmm : most ≤ 1048576) (hT : Tab w) (hE : Errs w) :
    Calls Tryz.prog 39 #[.slice a len cap, .int .i64 most] w (ReadRes bs len w) := by
  have hv : ∀ o1 o2, (convert 22 9 (.slice a len cap)).run Tryz.prog ((w.alloc o1).alloc o2) = .ok (.string (strOfNums bs)) ((w.alloc o1).alloc o2) := fun o1 o2 => (hB.below (bl_alloc (bl_a o1) o2)).str
  have HN : Hid (numsOf (strOfNums bs) = bs) := numsOf_nums hB.byt
  have hz : (strOfNums bs).size ≤ 1048576 := by rw [← numsOf_len, HN.out, hB.1]; omega
  generalize strOfNums bs = s at *
  have HT : Hid (Tab w) := hT
  have HE : Hid (Errs w) := hE
  clear hB hT hE
  refine (callsIn_wide (n := 6)).1 ?_
  refine callsIn_of_wp_marks Tryz.func39 rfl trivial ?_ rfl
  simp only [Tryz.ntmps39, List.size_toArray, List.length_cons, List.length_nil, Nat.reduceAdd, Nat.reduceSub, Array.replicate_succ, Array.replicate_zero, List.push_toArray, List.append_toArray, List.nil_append, List.cons_append]
  refine wpIn_wide.2 ?_
  go_wp2_with (go_at_call 68; refine (tokens_any _ _).mono ?_; rintro e w1 ⟨rfl, rfl⟩)
  have h0 : RS w (w.heap.size + 1) w.heap.size len (((w.alloc (.cells #[.slice none 0 0, .int .i64 0, .int .i64 len] 93)).alloc (.cells #[.pointer (some ⟨w.heap.size, 0, none⟩)] 61)).alloc (.cells #[.string s] 9)) (.slice none 0 0) [] := by
    refine ⟨?_, ?_, ?_, ?_, ?_, ?_, by simp, by simp; omega, by omega, (fun e => by cases e), (fun e => by cases e), (fun _ => rfl), Nat.le_refl _, OwnK.nil _ _, fun x hx => absurd hx List.not_mem_nil, List.Pairwise.nil, bl_alloc (bl_alloc (bl_a _) _) _⟩ <;> simp [go_sem]
  have htx : (((w.alloc (.cells #[.slice none 0 0, .int .i64 0, .int .i64 len] 93)).alloc (.cells #[.pointer (some ⟨w.heap.size, 0, none⟩)] 61)).alloc (.cells #[.string s] 9)).cell? ⟨w.heap.size + 1 + 1, 0, none⟩ = some (.string s) := by simp [go_sem]
  have hsz : (((w.alloc (.cells #[.slice none 0 0, .int .i64 0, .int .i64 len] 93)).alloc (.cells #[.pointer (some ⟨w.heap.size, 0, none⟩)] 61)).alloc (.cells #[.string s] 9)).heap.size = w.heap.size + 1 + 1 + 1 := by simp
  generalize ((w.alloc (.cells #[.slice none 0 0, .int .i64 0, .int .i64 len] 93)).alloc (.cells #[.pointer (some ⟨w.heap.size, 0, none⟩)] 61)).alloc (.cells #[.string s] 9) = W at *
  refine wpIn_wide.1 (tokLaw (m := 6) (tb := w.heap.size + 1 + 1) rfl hz HT.out HE.out h0 htx (by omega) (by omega) ?rounds ?done ?bad)
  case done =>
    intro W' v L hR hlx hD
    have hbx := hR.box
    have HR : Hid (RS w (w.heap.size + 1) w.heap.size len W' v L) := hR
    have HX : Hid (lexR (numsOf s) 0 = .ok (L.map TV.pt)) := hlx
    have hW0 : Hid (w.heap.size ≤ W.heap.size) := by show _ ≤ _; omega
    clear hR hlx h0 htx hsz
    dsimp only
    go_wp2_with fail
    refine ⟨by simp, .inl ⟨_, _, rfl, run_takeDeferred hD, ?_⟩⟩
    refine ⟨_, results_tmp rfl _ _ _, ?_⟩
    have hcs := CellsSame.putObj hD rfl (.deferred none)
    have hR2 := HR.out.same hcs (below_putObj HR.out.bel hW0.out _)
    exact .inl ⟨w.heap.size, v, L, ⟨hR2.r0, hR2.r1, hR2.r2, hR2.f1, hR2.ld, hR2.nd, hR2.hd, hR2.own, hR2.txt, hR2.sep, hR2.bel⟩, by rw [← HN.out]; exact HX.out, rfl⟩
  case bad =>
    intro W' v L p hR hlx hD
    refine ⟨by simp, .inl ⟨_, _, rfl, run_takeDeferred hD, ?_⟩⟩
    exact .inr ⟨p, by rw [← HN.out]; exact hlx, rfl, below_putObj hR.bel (by omega) _⟩
  case rounds =>
    intro fn rec hrec
    refine roundLaw (by omega) (by rw [hrec]) (by rw [hrec]) (by rw [hrec]; rfl) (fun x bx => { tmps := #[.slice a len cap, .int .i64 most, undef, undef, .pointer none, .pointer (some ⟨w.heap.size + 1, 0, none⟩), (.pointer (some ⟨bx, 0, none⟩)), .slice a len cap, .int .i64 len, .int .i64 most, .bool false, undef, undef, .slice a len cap, .int .i64 len, .agg #[.slice none 0 0, .int .i64 0, .int .i64 len], .pointer (some ⟨w.heap.size, 0, none⟩), .slice a len cap, .string s, .func (.func 95) #[] #[.pointer (some ⟨w.heap.size + 1 + 1, 0, none⟩)], (.agg (e7 x).toArray), undef, undef, undef, undef, undef, undef, undef, undef, undef, undef, undef], defers := [] }) ?assign ?body
    case assign =>
      intro x W9 K hK
      subst hrec
      have HK : Hid (K _ (W9.alloc (.cells (e7 x).toArray 98))) := hK
      clear hK
      simp only [e7] at HK ⊢
      gi_wp2
      exact HK.out
    case body =>
      intro L x v W9 bx hR hlen hnw hap hbl hbd hbv hcx
      subst hrec
      dsimp only
      have hc0 := hcx 0 _ rfl
      have hc1 := hcx 1 _ rfl
      have hc2 := hcx 2 _ rfl
      have hc3 := hcx 3 _ rfl
      have hc4 := hcx 4 _ rfl
      have hc5 := hcx 5 _ rfl
      have hc6 := hcx 6 _ rfl
      have HRB : Hid (∀ w', KeptK w.heap.size w.heap.size v.ownBlock W9 w' → w'.cell? ⟨w.heap.size + 1, 0, none⟩ = some (.pointer (some ⟨w.heap.size, 0, none⟩))) := fun w' hk => (hk.cell hR.lb hR.ne hR.ne hR.nb).trans hR.box
      have HBX : Hid (∀ w', KeptK w.heap.size w.heap.size v.ownBlock W9 w' → w'.cell? ⟨bx, 0, none⟩ = some (.int .i64 x.kind) ∧ w'.cell? ⟨bx, 1, none⟩ = some (.int .i64 x.p) ∧ w'.cell? ⟨bx, 2, none⟩ = some (.string x.raw) ∧ w'.cell? ⟨bx, 3, none⟩ = some (.int .i64 x.t.t.k) ∧ w'.cell? ⟨bx, 4, none⟩ = some (.slice x.t.t.a x.t.t.len x.t.t.cap) ∧ w'.cell? ⟨bx, 5, none⟩ = some (.int .i64 x.t.t.n) ∧ w'.cell? ⟨bx, 6, none⟩ = some (.int .i64 x.t.t.s)) := fun w' hk => ⟨(hk.cell hbl hbd hbd hbv).trans hc0, (hk.cell hbl hbd hbd hbv).trans hc1, (hk.cell hbl hbd hbd hbv).trans hc2, (hk.cell hbl hbd hbd hbv).trans hc3, (hk.cell hbl hbd hbd hbv).trans hc4, (hk.cell hbl hbd hbd hbv).trans hc5, (hk.cell hbl hbd hbd hbv).trans hc6⟩
      have HR : Hid (RS w (w.heap.size + 1) w.heap.size len W9 v L) := hR
      have HOa : Hid (OwnK (W9.drew.alloc (.cells #[.int .i64 x.kind, .int .i64 x.p, .string x.raw, .int .i64 x.t.t.k, .slice x.t.t.a x.t.t.len x.t.t.cap, .int .i64 x.t.t.n, .int .i64 x.t.t.s] 98)) w.heap.size v L) := hR.own.below (bl_trans (Below.drew (Below.refl _ _)) (bl_a _))
      have HNa : Hid (∀ j u, (flatK [x])[j]? = some u → (W9.drew.alloc (.cells #[.int .i64 x.kind, .int .i64 x.p, .string x.raw, .int .i64 x.t.t.k, .slice x.t.t.a x.t.t.len x.t.t.cap, .int .i64 x.t.t.n, .int .i64 x.t.t.s] 98)).cell? ((⟨W9.drew.heap.size, 0, none⟩ : Addr).add j) = some u) := newsK W9.drew x 98
      have hBa : w.heap.size ≤ (W9.drew.alloc (.cells #[.int .i64 x.kind, .int .i64 x.p, .string x.raw, .int .i64 x.t.t.k, .slice x.t.t.a x.t.t.len x.t.t.cap, .int .i64 x.t.t.n, .int .i64 x.t.t.s] 98)).heap.size := by have h1 := hR.ld; simp; omega
      have HZ : Hid (∀ w9, (W9.drew.alloc (.cells #[.int .i64 x.kind, .int .i64 x.p, .string x.raw, .int .i64 x.t.t.k, .slice x.t.t.a x.t.t.len x.t.t.cap, .int .i64 x.t.t.n, .int .i64 x.t.t.s] 98)).grownBy w9 v.ownBlock → w9.cell? ⟨w.heap.size, 0, none⟩ = some v ∧ w9.frozen? ⟨w.heap.size, 0, none⟩ = false ∧ w9.cell? ⟨w.heap.size, 1, none⟩ = some (.int .i64 0) ∧ w9.cell? ⟨w.heap.size, 2, none⟩ = some (.int .i64 len) ∧ w9.frozen? ⟨w.heap.size, 1, none⟩ = false) := fun w9 hg => HR.out.grownZ hg
      have HFin : Hid (∀ act w9 g9 c9, OwnK w9 w.heap.size (.slice (some ⟨g9, 0, none⟩) (L.length + 1) c9) (L ++ [x]) → (W9.drew.alloc (.cells #[.int .i64 x.kind, .int .i64 x.p, .string x.raw, .int .i64 x.t.t.k, .slice x.t.t.a x.t.t.len x.t.t.cap, .int .i64 x.t.t.n, .int .i64 x.t.t.s] 98)).grownBy w9 v.ownBlock → (v.ownBlock = some g9 ∨ g9 = (W9.drew.alloc (.cells #[.int .i64 x.kind, .int .i64 x.p, .string x.raw, .int .i64 x.t.t.k, .slice x.t.t.a x.t.t.len x.t.t.cap, .int .i64 x.t.t.n, .int .i64 x.t.t.s] 98)).heap.size) → rdPost w (w.heap.size + 1) w.heap.size len v (L ++ [x]) W9 .normal act (w9.setCell ⟨w.heap.size, 0, none⟩ (.slice (some ⟨g9, 0, none⟩) (L.length + 1) c9))) := fun act w9 g9 c9 h1 h2 h3 => RS.appended act HR.out hnw hap h1 h2 h3
      have r0 : W9.drew.cell? ⟨w.heap.size, 0, none⟩ = some v := hR.r0
      have r1 : ∀ o, (W9.drew.alloc o).cell? ⟨w.heap.size, 0, none⟩ = some v := fun o => ((bl_a o).cell (p := ⟨w.heap.size, 0, none⟩) hR.ld).trans hR.r0
      have r2 : ∀ o, (W9.alloc o).drew.cell? ⟨w.heap.size, 0, none⟩ = some v := r1
      have r3 : ∀ o, (W9.alloc o).cell? ⟨w.heap.size, 0, none⟩ = some v := r1
      clear hR hnw hap hcx hc0 hc1 hc2 hc3 hc4 hc5 hc6 hbd hbv h0 htx
      gi_wp2
      refine region_round (fun w' => KeptK w.heap.size w.heap.size v.ownBlock W9 w') (by kernel_rfl) (by kernel_rfl) (by rintro ⟨a, w, h⟩; exact h) ?_ (fun hHeld => ?_)
      · exact KeptK.drew0 _ _ _ _
      refine take_at (i := 0) 21 (v := ?v3) rfl rfl (by kernel_rfl) (by kernel_rfl) (by kernel_rfl) (fun _ _ _ h => h) (Or.inl ⟨by rfl, ?y3⟩) hHeld ?r3
      case y3 => (intro w' hSw; have hq := HRB.out w' hSw; go_simp; (try with_reducible rfl))
      try simp only [Act.put, List.setIfInBounds_toArray, List.set_cons_zero, List.set_cons_succ]
      refine take_at (i := 1) 22 (v := ?v4) rfl rfl (by kernel_rfl) (by kernel_rfl) (by kernel_rfl) (fun _ _ _ h => h) (Or.inl ⟨by rfl, ?y4⟩) hHeld ?r4
      case y4 => (intro w' hSw; have hq := HRB.out w' hSw; go_simp; (try with_reducible rfl))
      try simp only [Act.put, List.setIfInBounds_toArray, List.set_cons_zero, List.set_cons_succ]
      refine take_at (i := 2) 23 (v := ?v5) rfl rfl (by kernel_rfl) (by kernel_rfl) (by kernel_rfl) (fun _ _ _ h => h) (Or.inl ⟨by rfl, ?y5⟩) hHeld ?r5
      case y5 => (intro w' hSw; skip; go_simp; (try with_reducible rfl))
      try simp only [Act.put, List.setIfInBounds_toArray, List.set_cons_zero, List.set_cons_succ]
      refine take_at (i := 3) 24 (v := ?v6) rfl rfl (by kernel_rfl) (by kernel_rfl) (by kernel_rfl) (fun _ _ _ h => h) (Or.inl ⟨by rfl, ?y6⟩) hHeld ?r6
      case y6 => (intro w' hSw; skip; go_simp; (try with_reducible rfl))
      try simp only [Act.put, List.setIfInBounds_toArray, List.set_cons_zero, List.set_cons_succ]
      refine take_at (i := 5) 26 (v := ?v7) rfl rfl (by kernel_rfl) (by kernel_rfl) (by kernel_rfl) (fun _ _ _ h => h) (Or.inl ⟨by rfl, ?y7⟩) hHeld ?r7
      case y7 => (intro w' hSw; obtain ⟨q0, q1, q2, q3, q4, q5, q6⟩ := HBX.out w' hSw; go_simp; (try with_reducible rfl))
      try simp only [Act.put, List.setIfInBounds_toArray, List.set_cons_zero, List.set_cons_succ]
      refine wpAnyH_ready (rs := [4, 6]) (by kernel_rfl) (by simp) ?_
      refine AllReadyH.cons rfl (fun K hK => ?_) (AllReadyH.cons rfl (fun K hK => ?_) AllReadyH.nil)
      · go_simp
        refine hK.out _ _ ?_ (fun hHeld => ?_)
        · exact KeptK.drew0 _ _ _ _
        clear hK K
        try simp only [Act.put, List.setIfInBounds_toArray, List.set_cons_zero, List.set_cons_succ]
        refine wpAnyH_ready (rs := [6]) (by kernel_rfl) (by simp) ?_
        refine AllReadyH.cons rfl (fun K hK => ?_) AllReadyH.nil
        go_simp
        refine hK.out _ _ ?_ (fun hHeld => ?_)
        · exact (KeptK.drew0 _ _ _ _).alloc _
        clear hK K
        try simp only [Act.put, List.setIfInBounds_toArray, List.set_cons_zero, List.set_cons_succ]
        refine wpAnyH_ready (rs := [7]) (by kernel_rfl) (by simp) ?_
        refine AllReadyH.cons rfl (fun K hK => ?_) AllReadyH.nil
        refine stepK rfl (.tmp 25) (.tmp 27) rfl w.heap.size v L rfl HOa ⟨W9.drew.heap.size, 0, none⟩ 1 x rfl HNa (by omega) hBa ?_
        intro g9 c9 w9 HO9 HG9 HA9
        refine hK.out _ _ ?_ (fun hHeld => ?_)
        · exact ((KeptK.drew0 _ _ _ _).alloc _).grown HG9.out
        clear hK K
        obtain ⟨z0, z1, z2, z3, z4⟩ := HZ.out w9 HG9.out
        try simp only [Act.put, List.setIfInBounds_toArray]
        refine take_at (i := 8) 29 (v := ?v1) rfl rfl (by kernel_rfl) (by kernel_rfl) (by kernel_rfl) (fun _ _ _ h => h) (Or.inl ⟨by rfl, ?y1⟩) hHeld ?r1
        case y1 => (intro w' hSw; skip; go_simp; (try with_reducible rfl))
        try simp only [Act.put]
        refine take_at (i := 9) 30 (v := ?v2) rfl rfl (by kernel_rfl) (by kernel_rfl) (by kernel_rfl) (fun _ _ _ h => h) (Or.inl ⟨by rfl, ?y2⟩) hHeld ?r2
        case y2 => (intro w' hSw; skip; go_simp; (try with_reducible rfl))
        try simp only [Act.put]
        refine wpAnyH_ready (rs := [10]) (by kernel_rfl) (by simp) ?_
        refine AllReadyH.cons rfl (fun K hK => ?_) AllReadyH.nil
        go_simp
        refine hK.out _ _ ?_ (fun hHeld => ?_)
        · exact (((KeptK.drew0 _ _ _ _).alloc _).grown HG9.out).set 0 _
        clear hK K
        try simp only [Act.put, List.setIfInBounds_toArray, List.set_cons_zero, List.set_cons_succ]
        refine wpAnyH_done (by kernel_rfl) ?_ _
        exact HFin.out { tmps := #[], defers := [] } w9 g9 c9 HO9.out HG9.out HA9.out
      · go_simp
        refine hK.out _ _ ?_ (fun hHeld => ?_)
        · exact (KeptK.drew0 _ _ _ _).alloc _
        clear hK K
        try simp only [Act.put, List.setIfInBounds_toArray, List.set_cons_zero, List.set_cons_succ]
        refine wpAnyH_ready (rs := [4]) (by kernel_rfl) (by simp) ?_
        refine AllReadyH.cons rfl (fun K hK => ?_) AllReadyH.nil
        go_simp
        refine hK.out _ _ ?_ (fun hHeld => ?_)
        · exact (KeptK.drew0 _ _ _ _).alloc _
        clear hK K
        try simp only [Act.put, List.setIfInBounds_toArray, List.set_cons_zero, List.set_cons_succ]
        refine wpAnyH_ready (rs := [7]) (by kernel_rfl) (by simp) ?_
        refine AllReadyH.cons rfl (fun K hK => ?_) AllReadyH.nil
        refine stepK rfl (.tmp 25) (.tmp 27) rfl w.heap.size v L rfl HOa ⟨W9.drew.heap.size, 0, none⟩ 1 x rfl HNa (by omega) hBa ?_
        intro g9 c9 w9 HO9 HG9 HA9
        refine hK.out _ _ ?_ (fun hHeld => ?_)
        · exact ((KeptK.drew0 _ _ _ _).alloc _).grown HG9.out
        clear hK K
        obtain ⟨z0, z1, z2, z3, z4⟩ := HZ.out w9 HG9.out
        try simp only [Act.put, List.setIfInBounds_toArray]
        refine take_at (i := 8) 29 (v := ?v11) rfl rfl (by kernel_rfl) (by kernel_rfl) (by kernel_rfl) (fun _ _ _ h => h) (Or.inl ⟨by rfl, ?y11⟩) hHeld ?r11
        case y11 => (intro w' hSw; skip; go_simp; (try with_reducible rfl))
        try simp only [Act.put]
        refine take_at (i := 9) 30 (v := ?v12) rfl rfl (by kernel_rfl) (by kernel_rfl) (by kernel_rfl) (fun _ _ _ h => h) (Or.inl ⟨by rfl, ?y12⟩) hHeld ?r12
        case y12 => (intro w' hSw; skip; go_simp; (try with_reducible rfl))
        try simp only [Act.put]
        refine wpAnyH_ready (rs := [10]) (by kernel_rfl) (by simp) ?_
        refine AllReadyH.cons rfl (fun K hK => ?_) AllReadyH.nil
        go_simp
        refine hK.out _ _ ?_ (fun hHeld => ?_)
        · exact (((KeptK.drew0 _ _ _ _).alloc _).grown HG9.out).set 0 _
        clear hK K
        try simp only [Act.put, List.setIfInBounds_toArray, List.set_cons_zero, List.set_cons_succ]
        refine wpAnyH_done (by kernel_rfl) ?_ _
        exact HFin.out { tmps := #[], defers := [] } w9 g9 c9 HO9.out HG9.out HA9.out
end Go.Proofs.YtoclingolfdfeaaGreatDoor

/- RdP -/
namespace Go.Proofs.YtoclingolfdfeaaGreatDoor
open Go.RowKit Go.Deep
set_option maxRecDepth 100000

def okTerm (t : PT) : Bool := t.kind == 0
def okSubj (t : PT) : Bool := t.kind == 0 && (termOk t.td.k t.td.bs t.td.n t.td.s && decide (t.td.k ≤ 1))
def okProp (t : PT) : Bool := t.kind == 0 && (termOk t.td.k t.td.bs t.td.n t.td.s && decide (t.td.k = 0))
def okStop (t : PT) : Bool := t.kind == 3 && decide (t.raw = [46])
/-- What is known of a token that lies. -/
def TV.lies (x : TV) (w : World) : Prop := x.t.t.fits ∧ Bs w x.t.t.a x.t.t.len x.t.b ∧ x.kind ≤ 3 ∧ x.p ≤ 1048576
theorem TV.lies.below {x : TV} {w w' : World} (h : x.lies w) (hb : Below w.heap.size w w') : x.lies w' := ⟨h.1, h.2.1.below hb, h.2.2⟩
/-- A function that asks a token. -/
def Fits (f : Nat) (ok : PT → Bool) : Prop := ∀ (x : TV) (w : World), x.lies w → Calls Tryz.prog f #[.agg #[.int .i64 x.kind, .int .i64 x.p, .string x.raw, .int .i64 x.t.t.k, .slice x.t.t.a x.t.t.len x.t.t.cap, .int .i64 x.t.t.n, .int .i64 x.t.t.s]] w fun e w' => e = .returned (.bool (ok x.pt.2)) ∧ Below w.heap.size w w'
theorem fitsTerm : Fits 101 okTerm := by
  intro x w hx
  have hk : ((x.kind : Int) == 0) = (x.kind == 0) := by
    rw [Bool.eq_iff_iff]
    simp
  show Calls _ _ _ _ fun e w' => e = .returned (.bool (x.kind == 0)) ∧ _
  go_enter Tryz.func101, Tryz.ntmps101
  go_wp2_with fail
  go_ret
  refine ⟨?_, bl_a _⟩
  rw [← hk]
  try rfl
theorem fitsSubj : Fits 99 okSubj := by
  intro x w hx
  have IT := fun w hx => fitsTerm x w hx
  have IS := fun w hB => isSubject_any x.t.t x.t.b w hx.1 hB
  have HX : Hid (∀ o, x.lies (w.alloc o)) := fun o => hx.below (bl_a o)
  have HA := (Bx7.new w (.int .i64 x.kind) (.int .i64 x.p) (.string x.raw) (.int .i64 x.t.t.k) (.slice x.t.t.a x.t.t.len x.t.t.cap) (.int .i64 x.t.t.n) (.int .i64 x.t.t.s) 98)
  have HV : Hid (okSubj x.pt.2 = (okTerm x.pt.2 && (termOk x.t.t.k x.t.b x.t.t.n x.t.t.s && decide (x.t.t.k ≤ 1)))) := rfl
  generalize okTerm x.pt.2 = q1 at *
  generalize (termOk x.t.t.k x.t.b x.t.t.n x.t.t.s && decide (x.t.t.k ≤ 1)) = q2 at *
  generalize okSubj x.pt.2 = q3 at *
  clear hx
  go_enter Tryz.func99, Tryz.ntmps99
  go_wp2_with fail
  refine (IT _ (HX.out _)).mono ?_
  rintro e w1 ⟨rfl, hb1⟩
  have HX1 : Hid (x.lies w1) := (HX.out _).below hb1
  obtain ⟨⟨a0, a1, a2, a3, a4, a5, a6, a7⟩, _⟩ := HA.below hb1
  have HW : Hid (Below w.heap.size w w1) := bl_trans (bl_a _) hb1
  clear hb1 HX IT HA
  cases q1
  · go_wp2_with fail
    go_ret
    exact ⟨by rw [HV.out]; rfl, HW.out⟩
  · go_wp2_with fail
    refine (IS _ HX1.out.2.1).mono ?_
    rintro e w2 ⟨rfl, hb2⟩
    have HW2 : Hid (Below w.heap.size w w2) := bl_trans HW.out hb2
    clear hb2
    go_wp2_with fail
    go_ret
    exact ⟨by rw [HV.out]; rfl, HW2.out⟩
theorem fitsProp : Fits 100 okProp := by
  intro x w hx
  have IT := fun w hx => fitsTerm x w hx
  have IS := fun w hB => isProperty_any x.t.t x.t.b w hx.1 hB
  have HX : Hid (∀ o, x.lies (w.alloc o)) := fun o => hx.below (bl_a o)
  have HA := (Bx7.new w (.int .i64 x.kind) (.int .i64 x.p) (.string x.raw) (.int .i64 x.t.t.k) (.slice x.t.t.a x.t.t.len x.t.t.cap) (.int .i64 x.t.t.n) (.int .i64 x.t.t.s) 98)
  have HV : Hid (okProp x.pt.2 = (okTerm x.pt.2 && (termOk x.t.t.k x.t.b x.t.t.n x.t.t.s && decide (x.t.t.k = 0)))) := rfl
  generalize okTerm x.pt.2 = q1 at *
  generalize (termOk x.t.t.k x.t.b x.t.t.n x.t.t.s && decide (x.t.t.k = 0)) = q2 at *
  generalize okProp x.pt.2 = q3 at *
  clear hx
  go_enter Tryz.func100, Tryz.ntmps100
  go_wp2_with fail
  refine (IT _ (HX.out _)).mono ?_
  rintro e w1 ⟨rfl, hb1⟩
  have HX1 : Hid (x.lies w1) := (HX.out _).below hb1
  obtain ⟨⟨a0, a1, a2, a3, a4, a5, a6, a7⟩, _⟩ := HA.below hb1
  have HW : Hid (Below w.heap.size w w1) := bl_trans (bl_a _) hb1
  clear hb1 HX IT HA
  cases q1
  · go_wp2_with fail
    go_ret
    exact ⟨by rw [HV.out]; rfl, HW.out⟩
  · go_wp2_with fail
    refine (IS _ HX1.out.2.1).mono ?_
    rintro e w2 ⟨rfl, hb2⟩
    have HW2 : Hid (Below w.heap.size w w2) := bl_trans HW.out hb2
    clear hb2
    go_wp2_with fail
    go_ret
    exact ⟨by rw [HV.out]; rfl, HW2.out⟩
theorem str_nums (s : ByteArray) : strOfNums (numsOf s) = s := by
  have h : (strOfNums (numsOf s)).data.toList = s.data.toList := by
    rw [strOfNums_data, numsOf, List.map_map]
    have : ∀ x ∈ s.data.toList, ((fun n : Int => UInt8.ofNat n.toNat) ∘ fun b : UInt8 => (b.toNat : Int)) x = x := by
      intro x _
      simp
    rw [List.map_congr_left this, List.map_id']
  have h2 := Array.toList_inj.1 h
  cases s
  cases hs : strOfNums (numsOf _)
  rw [hs] at h2
  exact congrArg ByteArray.mk h2
theorem raw_point (s : ByteArray) : (s.toList == [46]) = decide (numsOf s = [46]) := by
  have e : s.toList = (numsOf s).map fun n => UInt8.ofNat n.toNat := by
    have := Lib.strOfNums_toList (numsOf s)
    rw [str_nums] at this
    exact this
  rw [Bool.eq_iff_iff, beq_iff_eq, decide_eq_true_eq]
  constructor
  · intro h
    rw [e] at h
    have h2 := congrArg (List.map fun b : UInt8 => (b.toNat : Int)) h
    rw [← numsOf_nums (nums_byt s)]
    unfold numsOf
    rw [strOfNums_data]
    exact h2
  · intro h
    rw [e, h]
    rfl
theorem fitsStop : Fits 102 okStop := by
  intro x w _
  show Calls _ _ _ _ fun e w' => e = .returned (.bool (x.kind == 3 && decide (numsOf x.raw = [46]))) ∧ _
  by_cases h3 : x.kind = 3
  · have hk : (x.kind : Int) = 3 := by omega
    have HV : Hid ((x.kind == 3 && decide (numsOf x.raw = [46])) = (x.raw.toList == [46])) := by
      show _ = _
      rw [raw_point, h3]
      rfl
    generalize (x.kind == 3 && decide (numsOf x.raw = [46])) = q at *
    clear h3
    go_enter Tryz.func102, Tryz.ntmps102
    go_wp2_with fail
    go_ret
    exact ⟨by rw [HV.out]; rfl, bl_a _⟩
  · have hk : ((x.kind : Int) == 3) = false := by simp; omega
    have hk2 : (x.kind == 3) = false := by simp [h3]
    rw [hk2]
    go_enter Tryz.func102, Tryz.ntmps102
    go_wp2_with fail
    go_ret
    exact ⟨rfl, bl_a _⟩
end Go.Proofs.YtoclingolfdfeaaGreatDoor
