import Derived.Test.YthljoojcpbignaaGreatDoorMk42
import Derived.Lib.AppendZerosOnto
namespace Go.Proofs.YthljoojcpbignaaGreatDoor
open Go.RowKit Go.Deep
set_option maxHeartbeats 40000000
set_option maxRecDepth 100000
theorem vq_nw {w0 w : World} (hb : Bl w0 w) (t : TypeId) : VQ w0 (w.alloc (.cells #[.slice none 0 0] t)) w.heap.size w.heap.size (.slice none 0 0) [] :=
 ⟨by simp [go_sem], by simp [go_sem], by simp, VL.nil _ _ _, fun e => (by cases e), hb.size, hb.size, hb.trans ((bl_a _).mono hb.size), by simp⟩
def MadeV (w0 : World) (B : Nat) (R : List (List Int)) (w : World) (e : Ending) (w' : World) : Prop := ∃ v L, e = .returned v ∧ VL w0 w' B v L ∧ L.map SL.b = R ∧ Bl w w'
theorem varsOf_any (a : Option Addr) (cap n : Nat) (kid : Nat → UT) (w0 w : World) (hn : n ≤ 1048576) (hR : KRow 0 w0 28 a n (fun i => (kid i).d.cells)) (hk : ∀ i, i < n → (kid i).lies 0 w0) (hw : Bl w0 w) (hm : sumN n (fun i => uc (kid i)) ≤ 1000000) :
 Calls Tryz.prog 32 #[.slice a n cap] w (MadeV w0 w.heap.size (gV n kid []) w) := by
 have HC : Hd (∀ (W : World) (g : Nat), VQ w0 W g g (.slice none 0 0) [] → Cl 57 #[.pointer (some ⟨g, 0, none⟩), .slice a n cap] W (AddQ w0 g g (.slice none 0 0) (gV n kid []) W)) := fun W g hV => addGroup_of a cap n kid _ [] g g w0 W hn hR hk hV (by simpa using hm) fun i hi => addGroup_any (kid i) w0 g g (hk i hi)
 have HV : Hd (VQ w0 (w.alloc (.cells #[.slice none 0 0] 55)) w.heap.size w.heap.size (.slice none 0 0) []) := vq_nw hw _
 have HB : Hd (Bl w (w.alloc (.cells #[.slice none 0 0] 55))) := bl_a _
 clear hR hk hm hn
 go_in
 go_wp2_with fail
 refine (HC.o _ _ HV.o).mono ?_
 rintro e z1 ⟨v1, L1, rfl, hV1, hR1, hK1⟩
 have HV1 := iH hV1
 have HR1 := iH hR1
 have HB1 := iH (HB.o.trans (hK1.low (fun c hc => (by cases hc)) nR HB.o.size))
 have x1 := hV1.cell
 clear hV1 hR1 hK1 HV HB HC
 go_wp2
 go_ret
 exact ⟨v1, L1, rfl, HV1.o.vl, HR1.o, HB1.o⟩
def BareQ (x : QY) : Prop := x.dis = false ∧ x.sn = 0 ∧ x.gn = 0 ∧ x.on = 0 ∧ x.lim = -1 ∧ x.off = 0
theorem isBareQ_any (x : QY) (w : World) : Calls Tryz.prog 44 #[.agg x.ar] w (Tells (BareQ x) w) := by
 have HX := iH (Box.new w x.ar 34 (0, 0))
 have HB : Hd (Bl w (w.alloc (.cells x.ar 34))) := bl_a _
 go_in
 go_upto_region 1 with fail
 generalize (w.alloc (.cells x.ar 34)) = W1 at *
 have x1 := HX.o.2 1 _ rfl
 have x2 := HX.o.2 2 _ rfl
 have x4 := HX.o.2 4 _ rfl
 have x5 := HX.o.2 5 _ rfl
 have x6 := HX.o.2 6 _ rfl
 have x7 := HX.o.2 7 _ rfl
 obtain ⟨q, hq⟩ : ∃ q, q = x.dis := ⟨_, rfl⟩
 rw [← hq] at x1
 cases q with
 | true =>
  have HNO : Hd (¬ BareQ x) := fun hh => by have h := hh.1; rw [← hq] at h; cases h
  clear hq
  go_wp2
  go_ret
  exact Tells.no HNO.o HB.o
 | false =>
 have HD := iH hq.symm
 clear hq
 by_cases h0 : x.sn = 0
 rotate_left
 · have HNO : Hd (¬ BareQ x) := fun hh => h0 hh.2.1
   have kh0 : ((x.sn : Int) == 0) = false := by simp; omega
   clear h0
   go_wp2
   go_ret
   exact Tells.no HNO.o HB.o
 have Hh0 := iH h0
 have kh0 : ((x.sn : Int) == 0) = true := by simp; omega
 clear h0
 by_cases h1 : x.gn = 0
 rotate_left
 · have HNO : Hd (¬ BareQ x) := fun hh => h1 hh.2.2.1
   have kh1 : ((x.gn : Int) == 0) = false := by simp; omega
   clear h1
   go_wp2
   go_ret
   exact Tells.no HNO.o HB.o
 have Hh1 := iH h1
 have kh1 : ((x.gn : Int) == 0) = true := by simp; omega
 clear h1
 by_cases h2 : x.on = 0
 rotate_left
 · have HNO : Hd (¬ BareQ x) := fun hh => h2 hh.2.2.2.1
   have kh2 : ((x.on : Int) == 0) = false := by simp; omega
   clear h2
   go_wp2
   go_ret
   exact Tells.no HNO.o HB.o
 have Hh2 := iH h2
 have kh2 : ((x.on : Int) == 0) = true := by simp; omega
 clear h2
 by_cases h3 : x.lim = -1
 rotate_left
 · have HNO : Hd (¬ BareQ x) := fun hh => h3 hh.2.2.2.2.1
   have kh3 : (x.lim == -1) = false := by simp; omega
   clear h3
   go_wp2
   go_ret
   exact Tells.no HNO.o HB.o
 have Hh3 := iH h3
 have kh3 : (x.lim == -1) = true := by simp; omega
 clear h3
 by_cases h4 : x.off = 0
 rotate_left
 · have HNO : Hd (¬ BareQ x) := fun hh => h4 hh.2.2.2.2.2
   have kh4 : (x.off == 0) = false := by simp; omega
   clear h4
   go_wp2
   go_ret
   exact Tells.no HNO.o HB.o
 have Hh4 := iH h4
 have kh4 : (x.off == 0) = true := by simp; omega
 clear h4
 have HY : Hd (BareQ x) := ⟨HD.o, Hh0.o, Hh1.o, Hh2.o, Hh3.o, Hh4.o⟩
 go_wp2
 go_ret
 exact Tells.yes HY.o HB.o
def flatU (l : List UN) : List Value := l.flatMap UN.cells
theorem flatU_len (l : List UN) : (flatU l).length = l.length * 28 := by
 unfold flatU
 induction l with
 | nil => rfl
 | cons x l ih => rw [List.flatMap_cons, List.length_append, ih, List.length_cons, Nat.add_mul, Nat.one_mul, Nat.add_comm]; rfl
theorem flatU_append (l m : List UN) : flatU (l ++ m) = flatU l ++ flatU m := by simp [flatU]
theorem flatU_get (l : List UN) : ∀ (i c : Nat) (hi : i < l.length), c < 28 → (flatU l)[i * 28 + c]? = (l[i].cells)[c]? := by
 induction l with
 | nil => intro i c hi _; cases hi
 | cons x l ih =>
  intro i c hi hc
  show (x.cells ++ flatU l)[i * 28 + c]? = _
  cases i with
  | zero =>
   rw [List.getElem?_append_left (by show 0 * 28 + c < 28; omega)]
   simp
  | succ i =>
   rw [List.getElem?_append_right (by show 28 ≤ (i + 1) * 28 + c; omega)]
   have : (i + 1) * 28 + c - x.cells.length = i * 28 + c := by show (i + 1) * 28 + c - 28 = _; omega
   rw [this, ih i c (by simpa using hi) hc]
   rfl
theorem flatU_one (l : List UN) : ∀ u ∈ flatU l, u.oneCell' = true := by
 intro u hu
 obtain ⟨x, _, hx⟩ := List.mem_flatMap.1 hu
 unfold UN.cells at hx
 simp only [List.mem_cons, List.not_mem_nil, or_false] at hx
 rcases hx with rfl | rfl | rfl | rfl | rfl | rfl | rfl | rfl | rfl | rfl | rfl | rfl | rfl | rfl | rfl | rfl | rfl | rfl | rfl | rfl | rfl | rfl | rfl | rfl | rfl | rfl | rfl | rfl <;> rfl
def OwnU (w : World) (B : Nat) (v : Value) (l : List UN) : Prop := w.ownsRow B 103 28 v l.length (flatU l) ∧ ∀ g, v.ownBlock = some g → B ≤ g ∧ g < w.heap.size
theorem OwnU.nil (w : World) (B : Nat) : OwnU w B (.slice none 0 0) [] := ⟨World.ownsRow_nil _ _ _ _, fun g h => by cases h⟩
theorem OwnU.form {w : World} {B : Nat} {v : Value} {l : List UN} (h : OwnU w B v l) : (v = .slice none 0 0 ∧ l = []) ∨ ∃ g cap, v = .slice (some ⟨g, 0, none⟩) l.length cap ∧ B ≤ g ∧ g < w.heap.size ∧ l.length ≤ cap ∧ ∀ j u, (flatU l)[j]? = some u → w.cell? ⟨g, j, none⟩ = some u := by
 rcases h.1.2 with ⟨hv, h0⟩ | ⟨g, cap, cur, hv, hB, hh, hle, _, hsz, htk⟩
 · exact .inl ⟨hv, List.eq_nil_of_length_eq_zero h0⟩
 refine .inr ⟨g, cap, hv, hB, (h.2 g (by rw [hv]; rfl)).2, hle, fun j u hu => ?_⟩
 have hj := (List.getElem?_eq_some_iff.1 hu).1
 rw [flatU_len] at hj
 rw [← htk, List.getElem?_take, if_pos hj] at hu
 simp only [World.cell?, hh]
 simpa using hu
theorem Tryz.infoU103 : (Tryz.prog.info? 103).map (fun i => (i.zero, i.size, i.bytes)) = some (some (.agg zUa), 28, 432) := by kernel_rfl
theorem appUs {ops : Array Oper} {rest : List Oper} {o : Oper} {a : Act} {Q : Exit → Act → World → Prop} {w : World} (hgd : o.guard = none) (s x : Operand)
 (ho : o.op = .call { callee := .builtin .append, args := #[s, x], argTypes := #[31, 31] })
 (B : Nat) (v : Value) (us : List UN) (hs : a.eval s = v) (HO : Hd (OwnU w B v us))
 (ad : Addr) (m c : Nat) (bs : List UN) (hx : a.eval x = .slice (some ad) m c) (hl : bs.length = m) (HN : Hd (∀ j u, (flatU bs)[j]? = some u → w.cell? (ad.add j) = some u))
 (hm : 0 < m) (hle : us.length + m ≤ 3000000) (hB : B ≤ w.heap.size)
 (h : ∀ v' w', Hd (OwnU w' B v' (us ++ bs)) → Hd (Below B w w') → wpList Tryz.prog ops Q rest (a.put o.dst v') w') :
 wpList Tryz.prog ops Q (o :: rest) a w := by
 obtain ⟨i0, hi0, hzz⟩ := Option.map_eq_some_iff.1 Tryz.infoU103
 simp only [Prod.mk.injEq] at hzz
 obtain ⟨hi2, hi1, hi3⟩ := hzz
 refine wpList_append_lies _ hgd s x 31 ho B 103 i0 _ 28 432 Tryz.underlying31 hi0 hi2 hi1 hi3 rfl (by omega) v us.length (flatU us) hs HO.o.1 ad m c (flatU bs) hx (by rw [flatU_len, hl]) HN.o (flatU_one bs) hm (by unfold maxLen; omega) (by omega) hB _ rfl ?_
 intro g cap w' hown hgr hat hlt
 have hown' : w'.ownsRow B 103 28 (.slice (some ⟨g, 0, none⟩) (us.length + m) cap) (us ++ bs).length (flatU (us ++ bs)) := by
  rw [flatU_append, List.length_append, hl]
  exact hown
 refine h _ w' ⟨hown', fun g' hg' => ?_⟩ ?_
 · have : g = g' := by simpa [Value.ownBlock] using hg'
   subst this
   rcases hown.2 with ⟨hv, _⟩ | ⟨g0, c0, cur, hv, hb, _⟩
   · cases hv
   cases hv; exact ⟨hb, hlt⟩
 rcases HO.o.1.2 with ⟨hv, _⟩ | ⟨g0, c0, cur, hv, hb, _⟩
 · subst hv
   exact ⟨hgr.os, hgr.tape, hgr.output, hgr.size, fun b hb => hgr.block b (by omega) (by simp [Value.ownBlock])⟩
 subst hv
 exact ⟨hgr.os, hgr.tape, hgr.output, hgr.size, fun b hb' => hgr.block b (by omega) (by intro e; have : b = g0 := (by simpa [Value.ownBlock] using e); omega)⟩
theorem appU0 {ops : Array Oper} {rest : List Oper} {o : Oper} {a : Act} {Q : Exit → Act → World → Prop} {w : World} (hgd : o.guard = none) (s x : Operand)
 (ho : o.op = .call { callee := .builtin .append, args := #[s, x], argTypes := #[31, 31] })
 (base : Option Addr) (n c : Nat) (hnc : n ≤ c) (hs : a.eval s = .slice base n c) (y : Option Addr) (c' : Nat) (hx : a.eval x = .slice y 0 c')
 (h : wpList Tryz.prog ops Q rest (a.put o.dst (.slice base n c)) w) : wpList Tryz.prog ops Q (o :: rest) a w := by
 obtain ⟨i0, hi0, hzz⟩ := Option.map_eq_some_iff.1 Tryz.infoU103
 refine wpList_plain hgd fun _ hK => ?_
 have hsrc : Src Tryz.prog i0.size 31 (.slice y 0 c') 0 [] w := by
  refine ⟨.inl ⟨_, Tryz.underlying31⟩, fun w' => by simp [Builtin.lenOf], ?_, ?_, by simp, fun u hu => by cases hu⟩
  · cases y with
    | none => simp [Builtin.firstCells]
    | some a => simp [Builtin.firstCells]; rfl
  cases y with
  | none => simp [Builtin.firstCells]
  | some a => simp [Builtin.firstCells]; rfl
 have hr := run_append_nothing (P := Tryz.prog) w 31 31 o.type 103 i0 Tryz.underlying31 hi0 base n c hnc (.slice y 0 c') hsrc
 unfold Oper.wp execOp
 simp only [ho, resolve, invoke, builtin, Sem.run_bind, Sem.run_pure, Result.andThen_ok, List.map_toArray, List.map_cons, List.map_nil, hs, hx, hr]
 exact hK _ _ h
theorem growU_any (n : Nat) (w : World) (hn : n ≤ 3000000) : Calls Tryz.prog 144 #[.slice none 0 0, .int .i64 n] w fun e w' => ∃ v, e = .returned v ∧ OwnU w' w.heap.size v [] ∧ Bl w w' := by
 have h1 : ¬ ((n : Int) < 0) := by omega
 have h3 : wrap64 ((n : Int) - ((0 : Int) - (0 : Int))) = (n : Int) := by unfold wrap64; omega
 have h3' : wrap64 ((n : Int) - 0) = (n : Int) := by unfold wrap64; omega
 by_cases h0 : n = 0
 · subst h0
   go_in
   go_wp2
   go_ret
   exact ⟨_, rfl, OwnU.nil _ _, Below.refl _ _⟩
 obtain ⟨i0, hi0, hzz⟩ := Option.map_eq_some_iff.1 Tryz.infoU103
 simp only [Prod.mk.injEq] at hzz
 obtain ⟨hi2, hi1, hi3⟩ := hzz
 have h4 : (n : Int) > 0 := by omega
 have hrz : ∀ ty, (Builtin.append_ #[31, 3] ty #[.slice none 0 0, .int .i64 n]).run Tryz.prog w =
  .ok (.slice (some ⟨w.heap.size, 0, none⟩) n (grownCap w n 0 103)) (w.drew.alloc (.cells (([] : List Value).toArray ++ Builtin.zeroCells (.agg #[.int .i64 0, .slice none 0 0, .int .i64 0, .slice none 0 0, .int .i64 0, .int .i64 0, .slice none 0 0, .int .i64 0, .slice none 0 0, .int .i64 0, .int .i64 0, .slice none 0 0, .int .i64 0, .slice none 0 0, .int .i64 0, .int .i64 0, .int .i64 0, .int .i64 0, .slice none 0 0, .int .i64 0, .slice none 0 0, .int .i64 0, .int .i64 0, .slice none 0 0, .slice none 0 0, .slice none 0 0, .slice none 0 0, .slice none 0 0] : Value).cells n ++ Builtin.zeroCells (.agg #[.int .i64 0, .slice none 0 0, .int .i64 0, .slice none 0 0, .int .i64 0, .int .i64 0, .slice none 0 0, .int .i64 0, .slice none 0 0, .int .i64 0, .int .i64 0, .slice none 0 0, .int .i64 0, .slice none 0 0, .int .i64 0, .int .i64 0, .int .i64 0, .int .i64 0, .slice none 0 0, .int .i64 0, .slice none 0 0, .int .i64 0, .int .i64 0, .slice none 0 0, .slice none 0 0, .slice none 0 0, .slice none 0 0, .slice none 0 0] : Value).cells (grownCap w n 0 103 - n)) 103)) := fun ty => by
  have h := Lib.run_append_grow_zeros (P := Tryz.prog) w 31 3 ty 103 i0 _ .i64 .i64 Tryz.underlying31 Tryz.underlying3 hi0 hi2 none 0 0 [] (run_firstCells_none w.drew i0.size 0 0 0) n (by omega) (by omega) (by omega) (by omega) (by rw [hi3]; omega) (by rw [hi3]; exact growslice_fits (show 0 < 0 + n by omega) (show (0 + n) * 432 ≤ 140737488355328 by omega))
  rw [Nat.zero_add] at h
  exact h
 have hGn : n ≤ grownCap w n 0 103 := grownCap_ge w _ _ _
 have hGm := grownCap_le_maxLen w n 0 103 (by unfold maxLen; omega)
 obtain ⟨G, hG⟩ : ∃ G, G = grownCap w n 0 103 := ⟨_, rfl⟩
 rw [← hG] at hrz hGn hGm
 have hG63 : G ≤ 9223372036854775807 := by unfold maxLen at hGm; omega
 obtain ⟨cs, hcs⟩ : ∃ cs, cs = ([] : List Value).toArray ++ Builtin.zeroCells (.agg zUa : Value).cells n ++ Builtin.zeroCells (.agg zUa : Value).cells (G - n) := ⟨_, rfl⟩
 have HSZ : Hd (cs.size = G * 28) := (show cs.size = _ by rw [hcs, Array.size_append, Array.size_append, size_zeroCells, size_zeroCells]; show 0 + n * 28 + (G - n) * 28 = G * 28; omega)
 rw [← hcs] at hrz
 clear hcs hi0 hi2 hi1 hi3 hG
 have HGM := iH hGm
 clear hGm
 go_in
 go_wp2_with (at_builtin; refine Lib.wpList_append_run _ rfl _ _ _ _ rfl _ _ rfl rfl _ _ (hrz _) ?_)
 go_ret
 refine ⟨_, rfl, ⟨⟨rfl, .inr ⟨w.heap.size, G, cs, rfl, nR, (show (w.alloc (.cells cs 103)).heap[w.heap.size]? = _ from Go.heap_alloc_new _ _), nZ, HGM.o, HSZ.o, by simp [flatU]⟩⟩, fun g hg => ?_⟩, ?_⟩
 · have : w.heap.size = g := by simpa [Value.ownBlock] using hg
   subst this
   exact ⟨nR, by simp⟩
 exact Below.drew (bl_a _)
def rowU (kid : Nat → UN) (n : Nat) : List UN := (List.range n).map kid
theorem rowU_cells {kid : Nat → UN} {n b off : Nat} {w : World} (h : ∀ i, i < n → ∀ c u, ((kid i).cells)[c]? = some u → w.cell? ⟨b, off + i * 28 + c, none⟩ = some u) : ∀ j u, (flatU (rowU kid n))[j]? = some u → w.cell? ((⟨b, off, none⟩ : Addr).add j) = some u := by
 intro j u hu
 have hj := (List.getElem?_eq_some_iff.1 hu).1
 rw [flatU_len] at hj
 have hl : (rowU kid n).length = n := by simp [rowU]
 rw [hl] at hj
 have hi : j / 28 < n := by omega
 have hc : j % 28 < 28 := Nat.mod_lt _ (by omega)
 have e : j = j / 28 * 28 + j % 28 := by omega
 rw [e, flatU_get _ _ _ (by rw [hl]; exact hi) hc] at hu
 have h1 := h (j / 28) hi (j % 28) u (by rw [← hu]; simp [rowU])
 have e2 : ((⟨b, off, none⟩ : Addr).add j) = ⟨b, off + j / 28 * 28 + j % 28, none⟩ := by
  unfold Addr.add
  by_cases h0 : j = 0
  · subst h0; rfl
  rw [if_neg h0, Addr.mk.injEq]; exact ⟨rfl, (show off + j = _ by omega), rfl⟩
 rw [e2]
 exact h1
theorem OwnU.val {w : World} {B : Nat} {v : Value} {l : List UN} (h : OwnU w B v l) : ∃ a n c, v = .slice a n c ∧ n ≤ c := by
 rcases h.form with ⟨hv, _⟩ | ⟨g, cap, hv, _, _, hle, _⟩
 · exact ⟨none, 0, 0, hv, nR⟩
 exact ⟨_, _, _, hv, hle⟩
theorem appU_stop {ops : Array Oper} {rest : List Oper} {o : Oper} {a : Act} {Q : Exit → Act → World → Prop} {w : World} (s x : Operand)
 (_ho : o.op = .call { callee := .builtin .append, args := #[s, x], argTypes := #[31, 31] }) (h : Hd (wpList Tryz.prog ops Q (o :: rest) a w)) : wpList Tryz.prog ops Q (o :: rest) a w := h
def RowsU (w : World) (a : Option Addr) (n : Nat) (kid : Nat → UN) : Prop := ∀ W, Bl w W → n ≠ 0 → ∃ b off, a = some ⟨b, off, none⟩ ∧ b < w.heap.size ∧ Hd (∀ j u, (flatU (rowU kid n))[j]? = some u → W.cell? ((⟨b, off, none⟩ : Addr).add j) = some u)
theorem RowsU.of {w0 w : World} {a : Option Addr} {n : Nat} {kid : Nat → UT} (h : KRow 0 w0 28 a n (fun i => (kid i).d.cells)) (hb : Bl w0 w) : RowsU w a n (fun i => (kid i).d) := by
 intro W hW hn
 obtain ⟨b, off, ha, _, hlt, hc⟩ := h.resolve_left hn
 refine ⟨b, off, ha, Nat.lt_of_lt_of_le hlt hb.size, ?_⟩
 have hb2 := hb.trans (hW.mono hb.size)
 exact rowU_cells (kid := fun i => (kid i).d) (fun i hi c u hu => (hb2.cell (p := ⟨b, off + i * 28 + c, none⟩) hlt).trans (hc i hi c u hu))
theorem concatU_any (g : Nat) (aa ba : Option Addr) (an ac bn bc : Nat) (ka kb : Nat → UN) (w : World) (hg : g < w.heap.size) (hc0 : w.cell? ⟨g, 0, none⟩ = some (.slice aa an ac)) (hc1 : w.cell? ⟨g, 1, none⟩ = some (.slice ba bn bc)) (ha : RowsU w aa an ka) (hb : RowsU w ba bn kb) (han : an ≤ 1048576) (hbn : bn ≤ 1048576) :
 Calls Tryz.prog 108 #[.slice (some ⟨g, 0, none⟩) 2 2] w fun e w' => ∃ v, e = .returned v ∧ OwnU w' w.heap.size v (rowU ka an ++ rowU kb bn) ∧ Bl w w' := by
 have HA := iH ha
 have HB := iH hb
 have HC0 := iH hc0
 have HC1 := iH hc1
 have hs1 : wrap64 (0 + (an : Int)) = (an : Int) := by unfold wrap64; omega
 have hs2 : wrap64 ((an : Int) + (bn : Int)) = ((an + bn : Nat) : Int) := by unfold wrap64; omega
 have hn1 : ¬ (an : Int) < 0 := by omega
 have hn2 : ¬ ((an + bn : Nat) : Int) < 0 := by omega
 clear ha hb hc0 hc1
 go_in
 go_wp2_with fail
 go_loopw [3, 11] (fun s i wr => ((i = .int .i64 0 ∧ s = .int .i64 0) ∨ (i = .int .i64 1 ∧ s = .int .i64 an) ∨ (i = .int .i64 2 ∧ s = .int .i64 (an + bn : Nat))) ∧ w = wr) (fun _ i _ => 2 - (intOf i).toNat)
 case atStart => exact ⟨.inl ⟨rfl, rfl⟩, rfl⟩
 obtain ⟨hd, rfl⟩ := hrel
 rcases hd with ⟨rfl, rfl⟩ | ⟨rfl, rfl⟩ | ⟨rfl, rfl⟩
 · have x0 := HC0.o
   go_wp2
   go_roundw
   case rel => exact ⟨.inr (.inl ⟨by go_num, by go_num⟩), trivial⟩
   case measure => simp [intOf]
 · have x0 := HC1.o
   go_wp2
   go_roundw
   case rel => exact ⟨.inr (.inr ⟨by go_num, by go_num⟩), trivial⟩
   case measure => simp [intOf]
 go_wp2_with fail
 refine (growU_any (an + bn) _ (by omega)).mono ?_
 rintro e w1 ⟨v1, rfl, hO1, hb1⟩
 have HO1 := iH hO1
 have HB1 := iH hb1
 clear hO1 hb1 hs1 hs2 hn1 hn2
 go_wp2_with fail
 go_loopw [6, 27] (fun lv i wr => ∃ vr, vr = lv ∧ ((i = .int .i64 0 ∧ Hd (OwnU wr w.heap.size vr [])) ∨ (i = .int .i64 1 ∧ Hd (OwnU wr w.heap.size vr (rowU ka an))) ∨ (i = .int .i64 2 ∧ Hd (OwnU wr w.heap.size vr (rowU ka an ++ rowU kb bn)))) ∧ Hd (Bl w wr)) (fun _ i _ => 2 - (intOf i).toNat)
 case atStart => exact ⟨v1, rfl, .inl ⟨rfl, HO1⟩, HB1⟩
 case round =>
 clear HO1 HB1
 obtain ⟨vr, rfl, hd, HBr⟩ := hrel
 rcases hd with ⟨rfl, HOr⟩ | ⟨rfl, HOr⟩ | ⟨rfl, HOr⟩
 · skip
   have x0 := (HBr.o.cell (p := ⟨g, 0, none⟩) hg).trans HC0.o
   by_cases h0 : an = 0
   · rw [h0] at x0
     have HE : Hd (OwnU wr w.heap.size vr ([] ++ rowU ka an)) := (show OwnU _ _ _ _ by have e : ([] ++ rowU ka an) = ([]) := (by rw [h0]; simp [rowU]); rw [e]; exact HOr.o)
     obtain ⟨va, vn, vc, hv, hle⟩ := HOr.o.val
     subst hv
     clear HOr
     go_wp2_with (with_reducible refine wpq_at ?_; refine appU_stop (.tmp 31) (.tmp 32) rfl ?_)
     change wpList _ _ _ _ _ _
     refine appU0 rfl (.tmp 31) (.tmp 32) rfl va vn vc hle rfl aa ac rfl ?_
     simp only [Act.put, sA, zA, cA]
     go_wp2
     go_roundw
     case rel => exact ⟨_, rfl, Or.inr (Or.inl ⟨by go_num, HE⟩), HBr⟩
     case measure => simp [intOf]
   obtain ⟨b, off, hab, hlt, HN⟩ := HA.o wr HBr.o h0
   rw [hab] at x0
   have hln : ([] : List UN).length + an ≤ 3000000 := by simp; omega
   have hBw := HBr.o.size
   clear hab hlt
   go_wp2_with (with_reducible refine wpq_at ?_; refine appU_stop (.tmp 31) (.tmp 32) rfl ?_)
   change wpList _ _ _ _ _ _
   refine appUs rfl (.tmp 31) (.tmp 32) rfl w.heap.size vr ([]) rfl HOr _ an ac (rowU ka an) rfl (by simp [rowU]) HN (by omega) hln hBw ?_
   intro v' w' HO' HB'
   simp only [Act.put, sA, zA, cA]
   have HE : Hd (OwnU w' w.heap.size v' ([] ++ rowU ka an)) := HO'
   have HBe := iH (HBr.o.trans HB'.o)
   clear HO' HB' HOr HN x0 HBr
   go_wp2
   go_roundw
   case rel => exact ⟨_, rfl, Or.inr (Or.inl ⟨by go_num, HE⟩), HBe⟩
   case measure => simp [intOf]
 · skip
   have x0 := (HBr.o.cell (p := ⟨g, 1, none⟩) hg).trans HC1.o
   by_cases h0 : bn = 0
   · rw [h0] at x0
     have HE : Hd (OwnU wr w.heap.size vr (rowU ka an ++ rowU kb bn)) := (show OwnU _ _ _ _ by have e : (rowU ka an ++ rowU kb bn) = (rowU ka an) := (by rw [h0]; simp [rowU]); rw [e]; exact HOr.o)
     obtain ⟨va, vn, vc, hv, hle⟩ := HOr.o.val
     subst hv
     clear HOr
     go_wp2_with (with_reducible refine wpq_at ?_; refine appU_stop (.tmp 31) (.tmp 32) rfl ?_)
     change wpList _ _ _ _ _ _
     refine appU0 rfl (.tmp 31) (.tmp 32) rfl va vn vc hle rfl ba bc rfl ?_
     simp only [Act.put, sA, zA, cA]
     go_wp2
     go_roundw
     case rel => exact ⟨_, rfl, Or.inr (Or.inr ⟨by go_num, HE⟩), HBr⟩
     case measure => simp [intOf]
   obtain ⟨b, off, hab, hlt, HN⟩ := HB.o wr HBr.o h0
   rw [hab] at x0
   have hln : (rowU ka an : List UN).length + bn ≤ 3000000 := by simp [rowU]; omega
   have hBw := HBr.o.size
   clear hab hlt
   go_wp2_with (with_reducible refine wpq_at ?_; refine appU_stop (.tmp 31) (.tmp 32) rfl ?_)
   change wpList _ _ _ _ _ _
   refine appUs rfl (.tmp 31) (.tmp 32) rfl w.heap.size vr (rowU ka an) rfl HOr _ bn bc (rowU kb bn) rfl (by simp [rowU]) HN (by omega) hln hBw ?_
   intro v' w' HO' HB'
   simp only [Act.put, sA, zA, cA]
   have HE : Hd (OwnU w' w.heap.size v' (rowU ka an ++ rowU kb bn)) := HO'
   have HBe := iH (HBr.o.trans HB'.o)
   clear HO' HB' HOr HN x0 HBr
   go_wp2
   go_roundw
   case rel => exact ⟨_, rfl, Or.inr (Or.inr ⟨by go_num, HE⟩), HBe⟩
   case measure => simp [intOf]
 go_wp2
 go_ret
 exact ⟨_, rfl, HOr.o, HBr.o⟩
end Go.Proofs.YthljoojcpbignaaGreatDoor
