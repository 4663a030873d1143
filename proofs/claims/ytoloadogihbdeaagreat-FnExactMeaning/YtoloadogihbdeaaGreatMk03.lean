import Derived.Test.YtoloadogihbdeaaGreatMk02
namespace Go.Proofs.YtoloadogihbdeaaGreat
open Go.RowKit Go.Deep
set_option maxHeartbeats 40000000
set_option maxRecDepth 100000
abbrev MC := Nat × Nat × Bool
def mv (c : MC) (k : Int) : Value := if c.2.2 then .int .u8 (IntKind.u8.wrap k) else .int .i64 k
def wrs : List MC → Int → World → World
 | [], _, w => w
 | c :: L, k, w => wrs L (k + 1) (w.setCell ⟨c.1, c.2.1, none⟩ (mv c k))
theorem wrs_app (A L : List MC) : ∀ (k : Int) (w : World), wrs (A ++ L) k w = wrs L (k + A.length) (wrs A k w) := by
 induction A with
 | nil => intro k w; simp [wrs]
 | cons c A ih =>
  intro k w
  show wrs (A ++ L) (k + 1) _ = wrs L _ (wrs A (k + 1) _)
  rw [ih, List.length_cons]
  congr 1
  omega
def Hl (w : World) : List MC → Int → Prop
 | [], _ => True
 | c :: L, k => w.cell? ⟨c.1, c.2.1, none⟩ = some (mv c k) ∧ Hl w L (k + 1)
theorem Hl.app {w : World} {A L : List MC} : ∀ {k : Int}, Hl w (A ++ L) k → Hl w A k ∧ ∀ q, q = k + (A.length : Int) → Hl w L q := by
 induction A with
 | nil => intro k h; exact ⟨trivial, fun q hq => by rw [hq]; simpa using h⟩
 | cons c A ih =>
  intro k h
  have h2 := ih h.2
  refine ⟨⟨h.1, h2.1⟩, fun q hq => h2.2 q ?_⟩
  rw [hq, List.length_cons]
  omega
theorem Hl.below {w w' : World} {L : List MC} (hb : ∀ c ∈ L, w'.cell? ⟨c.1, c.2.1, none⟩ = w.cell? ⟨c.1, c.2.1, none⟩) : ∀ {k : Int}, Hl w L k → Hl w' L k := by
 induction L with
 | nil => intro k _; trivial
 | cons c L ih => intro k h; exact ⟨(hb c List.mem_cons_self).trans h.1, ih (fun x hx => hb x (List.mem_cons_of_mem _ hx)) h.2⟩
structure Mg (B C : Nat) (w w' : World) : Prop where
 os : w'.os = w.os
 tape : w'.tape = w.tape
 output : w'.output = w.output
 size : w.heap.size ≤ w'.heap.size
 block : ∀ b, b < w.heap.size → b < B ∨ C ≤ b → w'.heap[b]? = w.heap[b]?
theorem Mg.refl (B C : Nat) (w : World) : Mg B C w w := ⟨rfl, rfl, rfl, nR, fun _ _ _ => rfl⟩
theorem Mg.tr {B C : Nat} {w w1 w2 : World} (h : Mg B C w w1) (k : Mg B C w1 w2) : Mg B C w w2 :=
 ⟨k.os.trans h.os, k.tape.trans h.tape, k.output.trans h.output, Nat.le_trans h.size k.size, fun b hb hc => (k.block b (Nat.lt_of_lt_of_le hb h.size) hc).trans (h.block b hb hc)⟩
theorem Mg.of_mid {B C : Nat} {w w' : World} (h : Mid B C w w') : Mg B C w w' := ⟨h.os, h.tape, h.output, by rw [h.size]; exact nR, fun b _ hc => h.block b hc⟩
theorem Mg.of_below {B C : Nat} {w w' : World} (h : Bl w w') : Mg B C w w' := ⟨h.os, h.tape, h.output, h.size, fun b hb _ => h.block b hb⟩
theorem Mg.below {B C : Nat} {w w' : World} (h : Mg B C w w') (hB : B ≤ w.heap.size) : Below B w w' := ⟨h.os, h.tape, h.output, h.size, fun b hb => h.block b (by omega) (.inl hb)⟩
theorem set_none {w : World} {g i : Nat} {v : Value} (h : w.cell? ⟨g, i, none⟩ = none) : (w.setCell ⟨g, i, none⟩ v).cell? ⟨g, i, none⟩ = none := by
 unfold World.cell? World.setCell at *
 simp only [Array.getElem?_modify] at *
 cases hb : w.heap[g]? with
 | none => simp
 | some o =>
  rw [hb] at h
  cases o <;> simp_all
theorem set_cell {w : World} {g i b o : Nat} {v : Value} : (w.setCell ⟨g, i, none⟩ v).cell? ⟨b, o, none⟩ = if b = g ∧ o = i then (w.cell? ⟨b, o, none⟩).map (fun _ => v) else w.cell? ⟨b, o, none⟩ := by
 by_cases e : b = g ∧ o = i
 · rw [if_pos e]
   obtain ⟨rfl, rfl⟩ := e
   cases hc : w.cell? ⟨b, o, none⟩ with
   | none => exact set_none hc
   | some u => exact set_same hc
 rw [if_neg e]
 exact cell_set_other (by omega)
theorem wrs_congr {L : List MC} {C : Nat} : ∀ {k : Int} {w w' : World}, (∀ b o, b < C → w'.cell? ⟨b, o, none⟩ = w.cell? ⟨b, o, none⟩) → ∀ b o, b < C → (wrs L k w').cell? ⟨b, o, none⟩ = (wrs L k w).cell? ⟨b, o, none⟩ := by
 induction L with
 | nil => intro k w w' h; exact h
 | cons c L ih =>
  intro k w w' h
  exact ih fun b o hb => by rw [set_cell, set_cell, h b o hb]
theorem wrs_ex {L : List MC} : ∀ {k : Int} {w : World} {b o : Nat} {v : Value}, (wrs L k w).cell? ⟨b, o, none⟩ = some v → ∃ u, w.cell? ⟨b, o, none⟩ = some u := by
 induction L with
 | nil => intro k w b o v h; exact ⟨v, h⟩
 | cons c L ih =>
  intro k w b o v h
  obtain ⟨u, hu⟩ := ih h
  rw [set_cell] at hu
  split at hu
  · cases hc : w.cell? ⟨b, o, none⟩ with
    | some u => exact ⟨u, rfl⟩
    | none => rw [hc] at hu; cases hu
  exact ⟨_, hu⟩
structure Mkd (B C : Nat) (w w' : World) (A : List MC) (k m : Int) : Prop where
 q : m = k + A.length
 e : ∀ b o, b < C → w'.cell? ⟨b, o, none⟩ = (wrs A k w).cell? ⟨b, o, none⟩
 kb : KB w w'
 mid : Mg B C w w'
 ex : ∀ c ∈ A, (B ≤ c.1 ∧ c.1 < C) ∧ ∃ v, w.cell? ⟨c.1, c.2.1, none⟩ = some v
theorem Mkd.refl (B C : Nat) (w : World) (k : Int) : Mkd B C w w [] k k := ⟨by simp, fun _ _ _ => rfl, KB.refl _, Mg.refl _ _ _, fun _ h => by cases h⟩
theorem Mkd.app {B C : Nat} {w w1 w2 : World} {A L : List MC} {k m z q : Int} (h : Mkd B C w w1 A k m) (h2 : Mkd B C w1 w2 L z q) (hz : z = m) : Mkd B C w w2 (A ++ L) k q := by
 subst hz
 refine ⟨by rw [List.length_append, h2.q, h.q]; omega, fun b o hb => ?_, h.kb.trans h2.kb, h.mid.tr h2.mid, fun c hc => ?_⟩
 · rw [wrs_app, ← h.q, h2.e b o hb]
   exact wrs_congr h.e b o hb
 rcases List.mem_append.1 hc with hc | hc
 · exact h.ex c hc
 obtain ⟨hh, v, hv⟩ := h2.ex c hc
 rw [h.e _ _ hh.2] at hv
 exact ⟨hh, wrs_ex hv⟩
theorem Mkd.num {B C : Nat} {w w1 : World} {A : List MC} {k m x : Int} {g o : Nat} (h : Mkd B C w w1 A k m) (hn : N64 w g o) (hB : B ≤ g) (hC : g < C) (hx : x = m) : Mkd B C w (w1.setCell ⟨g, o, none⟩ (.int .i64 x)) (A ++ [(g, o, false)]) k (m + 1) := by
 subst hx
 refine h.app (q := x + 1) (z := x) ⟨rfl, fun _ _ _ => rfl, KB.set (h.kb.i _ _ hn), Mg.of_mid ((Mid.refl _ _ _).set hB hC), fun c hc => ?_⟩ rfl
 rw [List.mem_singleton] at hc
 subst hc
 obtain ⟨v, hv⟩ := h.kb.i _ _ hn
 exact ⟨⟨hB, hC⟩, _, hv⟩
theorem Mkd.byt {B C : Nat} {w w1 : World} {A : List MC} {k m x : Int} {g o : Nat} (h : Mkd B C w w1 A k m) (hn : U8 w g o) (hB : B ≤ g) (hC : g < C) (hx : x = IntKind.u8.wrap m) : Mkd B C w (w1.setCell ⟨g, o, none⟩ (.int .u8 x)) (A ++ [(g, o, true)]) k (m + 1) := by
 subst hx
 refine h.app (q := m + 1) (z := m) ⟨rfl, fun _ _ _ => rfl, KB.setb (h.kb.u _ _ hn), Mg.of_mid ((Mid.refl _ _ _).set hB hC), fun c hc => ?_⟩ rfl
 rw [List.mem_singleton] at hc
 subst hc
 obtain ⟨v, hv⟩ := h.kb.u _ _ hn
 exact ⟨⟨hB, hC⟩, _, hv⟩
theorem KB.box (w : World) (cs : Array Value) (t : TypeId) : KB w (w.alloc (.cells cs t)) := by
 have hs : ∀ {b j : Nat} {v : Value}, w.cell? ⟨b, j, none⟩ = some v → (w.alloc (.cells cs t)).cell? ⟨b, j, none⟩ = some v := fun {b j v} h => by
  have hb : b < w.heap.size := by
   unfold World.cell? at h
   cases he : w.heap[b]? with
   | none => simp [he] at h
   | some _ => exact (Array.getElem?_eq_some_iff.1 he).1
  exact ((bl_a (w := w) (.cells cs t)).cell (p := ⟨b, j, none⟩) hb).trans h
 refine ⟨fun b j ⟨v, h⟩ => ⟨v, hs h⟩, fun b j ⟨v, h⟩ => ⟨v, hs h⟩, fun b j ⟨v, h⟩ => ⟨v, hs h⟩, fun b j a l c h => hs h, fun p => ?_⟩
 by_cases hp : p.block < w.heap.size
 · exact (bl_a (w := w) (.cells cs t)).frozen hp
 unfold World.frozen? World.alloc
 have h1 : w.heap[p.block]? = none := Array.getElem?_eq_none (by omega)
 rw [h1, Array.getElem?_push]
 by_cases e : p.block = w.heap.size
 · simp [e]
 rw [if_neg e]
 simp [h1]
theorem Mkd.box {B C : Nat} {w w1 : World} {A : List MC} {k m : Int} (h : Mkd B C w w1 A k m) (hC : C ≤ w.heap.size) (cs : Array Value) (t : TypeId) : Mkd B C w (w1.alloc (.cells cs t)) A k m := by
 refine ⟨h.q, fun b o hb => ?_, h.kb.trans (KB.box _ _ _), h.mid.tr (Mg.of_below (bl_a _)), h.ex⟩
 rw [← h.e b o hb]
 exact (bl_a (w := w1) (.cells cs t)).cell (p := ⟨b, o, none⟩) (Nat.lt_of_lt_of_le hb (Nat.le_trans hC h.mid.size))
def psM (L : List MC) : List (Nat × Nat) := L.map (fun c => (c.1, c.2.1))
theorem wrs_other {L : List MC} : ∀ {k : Int} {w : World} {b o : Nat}, (b, o) ∉ psM L → (wrs L k w).cell? ⟨b, o, none⟩ = w.cell? ⟨b, o, none⟩ := by
 induction L with
 | nil => intro k w b o _; rfl
 | cons c L ih =>
  intro k w b o h
  have h' : (b, o) ≠ (c.1, c.2.1) ∧ (b, o) ∉ psM L := by simpa [psM] using h
  show (wrs L (k + 1) _).cell? _ = _
  rw [ih h'.2, cell_set_other]
  have := h'.1
  simp only [ne_eq, Prod.mk.injEq, not_and] at this
  by_cases e : b = c.1
  · exact .inr (this e)
  exact .inl e
theorem wrs_held {A : List MC} : ∀ {k : Int} {w : World}, (psM A).Nodup → (∀ c ∈ A, ∃ v, w.cell? ⟨c.1, c.2.1, none⟩ = some v) → Hl (wrs A k w) A k := by
 induction A with
 | nil => intro k w _ _; trivial
 | cons c A ih =>
  intro k w hd hx'
  have hd' : (c.1, c.2.1) ∉ psM A ∧ (psM A).Nodup := by simpa [psM] using hd
  obtain ⟨v, hv⟩ := hx' c List.mem_cons_self
  refine ⟨?_, ih hd'.2 fun x hc => ?_⟩
  · show (wrs A (k + 1) _).cell? _ = _
    rw [wrs_other hd'.1]
    exact set_same hv
  obtain ⟨u, hu⟩ := hx' x (List.mem_cons_of_mem _ hc)
  rw [set_cell, hu]
  split
  · exact ⟨_, rfl⟩
  exact ⟨_, rfl⟩
theorem Mkd.held {B C : Nat} {w w' : World} {A : List MC} {k m : Int} (h : Mkd B C w w' A k m) (hd : (psM A).Nodup) : Hl w' A k :=
 Hl.below (fun c hc => h.e _ _ (h.ex c hc).1.2) (wrs_held hd fun c hc => (h.ex c hc).2)
def catM (f : Nat → List MC) : Nat → List MC
 | 0 => []
 | n + 1 => catM f n ++ f n
theorem catM_mono {f : Nat → List MC} {j n : Nat} (h : j ≤ n) : (catM f j).length ≤ (catM f n).length := by
 induction n with
 | zero => cases h; exact nR
 | succ n ih =>
  by_cases e : j = n + 1
  · rw [e]; exact nR
  show _ ≤ (catM f n ++ f n).length
  rw [List.length_append]
  have := ih (by omega)
  omega
theorem catM_le {f : Nat → List MC} {j n : Nat} (h : j < n) : (catM f j).length + (f j).length ≤ (catM f n).length := by
 have := catM_mono (f := f) (show j + 1 ≤ n by omega)
 rw [show catM f (j + 1) = catM f j ++ f j from rfl, List.length_append] at this
 exact this
theorem catM_ge {f : Nat → List MC} (h : ∀ i, 1 ≤ (f i).length) : ∀ n, n ≤ (catM f n).length
 | 0 => nR
 | n + 1 => by
  show n + 1 ≤ (catM f n ++ f n).length
  rw [List.length_append]
  have := catM_ge h n
  have := h n
  omega
theorem Hl.cat {w : World} {f : Nat → List MC} {j n : Nat} (h : j < n) : ∀ {k : Int}, Hl w (catM f n) k → ∀ q, q = k + ((catM f j).length : Int) → Hl w (f j) q := by
 induction n with
 | zero => omega
 | succ n ih =>
  intro k hh q hq
  have h2 := Hl.app (A := catM f n) (L := f n) hh
  by_cases e : j = n
  · rw [e] at hq ⊢
    exact h2.2 q hq
  exact ih (by omega) h2.1 q hq
def blk : Option Addr → Nat
 | some p => p.block
 | none => 0
def txC (a : Option Addr) (len : Nat) : List MC := (List.range len).map fun i => (blk a, i, true)
theorem txC_len (a : Option Addr) (len : Nat) : (txC a len).length = len := by simp [txC]
def MkX (B C : Nat) (w : World) (L : List MC) (k : Int) (e : Ending) (w' : World) : Prop := ∃ q : Int, e = .returned (.int .i64 q) ∧ Mkd B C w w' L k q
def HdX (w : World) (L : List MC) (k : Int) (e : Ending) (w' : World) : Prop := ∃ q : Int, e = .returned (.int .i64 q) ∧ Hd (q = k + (L.length : Int)) ∧ w' = w
theorem markText_x (B C : Nat) (a : Option Addr) (len cap : Nat) (k : Int) (w : World) (h : TxM B C w a len) (hk : 0 ≤ k) (hk2 : k ≤ 2305843009213693952) :
 Calls Tryz.prog 49 #[.slice a len cap, .int .i64 k] w (MkX B C w (txC a len) k) := by
 obtain ⟨hlen, h⟩ := h
 by_cases h0 : len = 0
 · subst h0
   clear h
   go_in
   go_wp2
   refine wp_loop_rounds 1 ?_
   rw [rounds_succ]
   go_wp2
   go_ret
   exact ⟨_, rfl, Mkd.refl _ _ _ _⟩
 rcases h with h | ⟨g, rfl, hB, hC, hx⟩
 · exact absurd h h0
 have HX := iH hx
 clear hx
 go_in
 go_wp2_with fail
 go_loopw [1, 5] (fun a b wr => ∃ j : Nat, j ≤ len ∧ a = .int .i64 (k + j) ∧ b = .int .i64 j ∧ Hd (Mkd B C w wr (txC (some ⟨g, 0, none⟩) j) k (k + j)))
  (fun _ b _ => len - (intOf b).toNat)
 case atStart => exact ⟨0, nZ, by simp, rfl, (show Mkd B C w w [] k (k + (0 : Nat)) by simpa using Mkd.refl B C w k)⟩
 obtain ⟨j, hj, rfl, rfl, HM⟩ := hrel
 by_cases hlt : j < len
 · have HU := iH (HX.o j hlt).1
   obtain ⟨v, hv⟩ := HM.o.kb.u g j (HX.o j hlt).1
   have hfv := (HM.o.kb.f ⟨g, j, none⟩).trans (HX.o j hlt).2
   have HS : Hd (txC (some ⟨g, 0, none⟩) (j + 1) = txC (some ⟨g, 0, none⟩) j ++ [(g, j, true)]) := (show _ = _ by unfold txC; rw [List.range_succ, List.map_append]; rfl)
   go_wp2
   go_roundw
   case rel =>
    refine ⟨j + 1, by omega, by go_num, by go_num, ?_⟩
    show Mkd B C w _ _ k _
    rw [HS.o, show k + ((j + 1 : Nat) : Int) = k + j + 1 by omega]
    exact HM.o.byt HU.o hB hC (by first | rfl | simp)
   case measure => simp [intOf]; omega
 obtain rfl : j = len := by omega
 go_wp2
 go_ret
 exact ⟨_, rfl, HM.o⟩
theorem Hl.num {w : World} {g o : Nat} {L : List MC} {k : Int} (h : Hl w ([(g, o, false)] ++ L) k) : w.cell? ⟨g, o, none⟩ = some (.int .i64 k) ∧ Hl w L (k + 1) := h
theorem Hl.txt {w : World} {a : Option Addr} {len : Nat} : ∀ {k : Int}, Hl w (txC a len) k → ∀ j, j < len → w.cell? ⟨blk a, j, none⟩ = some (.int .u8 (IntKind.u8.wrap (k + (j : Nat)))) := by
 induction len with
 | zero => intro k _ j hj; omega
 | succ n ih =>
  intro k h j hj
  have e : txC a (n + 1) = txC a n ++ [(blk a, n, true)] := by unfold txC; rw [List.range_succ, List.map_append]; rfl
  rw [e] at h
  have h2 := Hl.app h
  by_cases e : j = n
  · rw [e]
    have := (h2.2 _ rfl).1
    rw [txC_len] at this
    exact this
  exact ih h2.1 j (by omega)
theorem heldText_x (a : Option Addr) (len cap : Nat) (k : Int) (w : World) (ha : len = 0 ∨ ∃ g, a = some ⟨g, 0, none⟩) (h : Hl w (txC a len) k) (hk : 0 ≤ k) (hk2 : k ≤ 2305843009213693952) (hlen : len ≤ 1048576) :
 Calls Tryz.prog 56 #[.slice a len cap, .int .i64 k] w (HdX w (txC a len) k) := by
 have HL : Hd (((txC a len).length : Int) = len) := (show _ = _ by rw [txC_len])
 rcases ha with rfl | ⟨g, rfl⟩
 · clear h
   go_in
   go_wp2
   refine wp_loop_rounds 1 ?_
   rw [rounds_succ]
   go_wp2
   go_ret
   exact ⟨_, rfl, (show k = k + _ by rw [HL.o]; simp), rfl⟩
 have HC := iH h.txt
 clear h
 go_in
 go_wp2
 go_loop [1, 5] (fun q i => ∃ j : Nat, j ≤ len ∧ i = .int .i64 j ∧ q = .int .i64 (k + j)) (fun _ i => len - (intOf i).toNat)
 case atStart => exact ⟨0, nZ, rfl, by simp⟩
 obtain ⟨j, hj, rfl, rfl⟩ := hrel
 by_cases hlt : j < len
 · have hx : w.cell? ⟨g, j, none⟩ = _ := HC.o j hlt
   have hw : IntKind.u8.wrap (k + (j : Int)) = (k + (j : Int)) % 256 := by rw [IntKind.wrap_u8]
   go_wp2
   go_round
   case rel => exact ⟨j + 1, by omega, by go_num, by go_num⟩
   case measure => simp [intOf]; omega
 obtain rfl : j = len := by omega
 go_wp2
 go_ret
 exact ⟨_, rfl, (show _ = _ by rw [HL.o]), rfl⟩
def TB.lies (B : Nat) (w : World) (x : TB) : Prop := BsF B w x.sl ∧ x.t.fits
def TB.same (x y : TB) : Prop := x.td = y.td
def TB0 : TB := ⟨⟨0, none, 0, 0, 0, 0⟩, []⟩
def tbG (l : List TB) (i : Nat) : TB := l[i]?.getD TB0
theorem tbG_at {l : List TB} {i : Nat} (h : i < l.length) : tbG l i = l[i] ∧ l[i] ∈ l := by
 refine ⟨?_, List.getElem_mem h⟩
 unfold tbG
 rw [List.getElem?_eq_getElem h]
 rfl
theorem trow_krow {B : Nat} {w : World} {a : Option Addr} {l : List TB} (h : TRowF B w a l) : KRow B w 4 a l.length (fun i => enc4 (tbG l i).t) := by
 obtain ⟨h1, h2, _⟩ := h
 rcases h1 with e | ⟨b, off, ha, hlt, hc⟩
 · exact .inl (by rw [e]; rfl)
 by_cases h0 : l = []
 · exact .inl (by rw [h0]; rfl)
 refine .inr ⟨b, off, ha, (h2.resolve_left h0) _ ha, hlt, fun i hi c u hu => ?_⟩
 dsimp only at hu
 rw [(tbG_at hi).1] at hu
 have hc4 : c < 4 := (List.getElem?_eq_some_iff.1 hu).1
 have := hc (i * 4 + c) u (by rw [flat4_get l i c hi hc4]; exact hu)
 rw [Nat.add_assoc]
 exact this
theorem krow_trow {B : Nat} {w : World} {g n : Nat} {f : Nat → TB} (h : KRow B w 4 (some ⟨g, 0, none⟩) n (fun i => enc4 (f i).t)) (hl : ∀ i, i < n → (f i).lies B w) : TRowF B w (some ⟨g, 0, none⟩) ((List.range n).map f) := by
 have hlen : ((List.range n).map f).length = n := by simp
 refine ⟨?_, ?_, fun x hx => ?_⟩
 · rcases h with h | ⟨b, off, ha, _, hlt, hc⟩
   · exact .inl (by rw [h]; rfl)
   refine .inr ⟨b, off, ha, hlt, fun j u hu => ?_⟩
   have hj : j < n * 4 := by
    have := (List.getElem?_eq_some_iff.1 hu).1
    rwa [flat4_len, hlen] at this
   have hi : j / 4 < n := by omega
   have hc4 : j % 4 < 4 := by omega
   have e : j = j / 4 * 4 + j % 4 := by omega
   rw [e, flat4_get _ (j / 4) (j % 4) (by rw [hlen]; exact hi) hc4] at hu
   have hg : ((List.range n).map f)[j / 4]'(by rw [hlen]; exact hi) = f (j / 4) := by simp
   rw [hg] at hu
   have := hc (j / 4) hi (j % 4) u hu
   rw [e, ← Nat.add_assoc]
   exact this
 · rcases h with h | ⟨b, off, ha, hB, _⟩
   · exact .inl (by rw [h]; rfl)
   exact .inr fun p hp => by rw [ha] at hp; cases hp; exact hB
 obtain ⟨i, hi, rfl⟩ := List.mem_map.1 hx
 exact hl i (List.mem_range.1 hi)
end Go.Proofs.YtoloadogihbdeaaGreat
