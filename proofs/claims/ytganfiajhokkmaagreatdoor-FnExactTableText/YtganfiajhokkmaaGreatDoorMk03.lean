/- Texts put together: TxtC TokF MrkA OwnA TriA GraA StrC -/
import Derived.Test.YtganfiajhokkmaaGreatDoorMk02
import Derived.Lib.ConvBytes
import Derived.Laws.BytesArg
import Derived.ChangeOld
import Derived.Lib.SmallJoins
import Derived.Test.YtganfiajhokkmaaGreatDoorMk01
import Derived.Deep.RegionHeld3
import Derived.Deep.AppendLies
/- TxtC -/
namespace Go.Proofs.YtganfiajhokkmaaGreatDoor
open Go.RowKit Go.Deep

/-- A text that is none, or lies in a block of its own from B on; what is behind it may be written. -/
def Tx (w : World) (B : Nat) (a : Option Addr) (len cap : Nat) (bs : List Int) : Prop :=
  Bs w a len bs ∧ ((a = none ∧ len = 0 ∧ cap = 0) ∨ ∃ g, a = some ⟨g, 0, none⟩ ∧ B ≤ g ∧ g < w.heap.size ∧ len ≤ cap ∧ ∀ j, j < cap → (∃ v, w.cell? ⟨g, j, none⟩ = some (.int .u8 v)) ∧ w.frozen? ⟨g, j, none⟩ = false)
theorem Tx.below {w w' : World} {B : Nat} {a : Option Addr} {len cap : Nat} {bs : List Int} (h : Tx w B a len cap bs) (hb : Below w.heap.size w w') : Tx w' B a len cap bs := by
  refine ⟨h.1.below hb, ?_⟩
  rcases h.2 with h2 | ⟨g, ha, hB, hg, hl, hc⟩
  · exact .inl h2
  · refine .inr ⟨g, ha, hB, Nat.lt_of_lt_of_le hg hb.size, hl, fun j hj => ?_⟩
    rw [hb.cell (p := ⟨g, j, none⟩) hg, hb.frozen (p := ⟨g, j, none⟩) hg]
    exact hc j hj
theorem Tx.mono {w : World} {B B' : Nat} {a : Option Addr} {len cap : Nat} {bs : List Int} (h : Tx w B a len cap bs) (hB : B' ≤ B) : Tx w B' a len cap bs := by
  refine ⟨h.1, ?_⟩
  rcases h.2 with h2 | ⟨g, ha, hg, hr⟩
  · exact .inl h2
  · exact .inr ⟨g, ha, Nat.le_trans hB hg, hr⟩
theorem Tx.nil (w : World) (B : Nat) : Tx w B none 0 0 [] := ⟨⟨rfl, by omega, by simp, .inl rfl⟩, .inl ⟨rfl, rfl, rfl⟩⟩

def numsOf (s : ByteArray) : List Int := s.data.toList.map (fun b => (b.toNat : Int))
theorem Tx.conv (w : World) (s : ByteArray) (e : TypeId) (hs : s.size ≤ 1048576) : Tx (Lib.bytesWorld w e s) w.heap.size (some ⟨w.heap.size, 0, none⟩) s.size (grownCap w s.size 0 e) (numsOf s) := by
  have hge := grownCap_ge w s.size 0 e
  refine ⟨⟨by simp [numsOf], hs, fun i => ?_, .inr ⟨w.heap.size, 0, rfl, by rw [Lib.bytesWorld_size]; omega, fun i hi => ?_⟩⟩, .inr ⟨w.heap.size, rfl, Nat.le_refl _, by rw [Lib.bytesWorld_size]; omega, hge, fun j hj => ?_⟩⟩
  · by_cases h : i < s.data.toList.length
    · have hb := (s.data.toList[i]).toNat_lt
      simp only [numsOf, List.getElem?_map, List.getElem?_eq_getElem h, Option.map_some, Option.getD_some]
      omega
    · simp only [numsOf, List.getElem?_map, List.getElem?_eq_none (Nat.le_of_not_lt h), Option.map_none, Option.getD_none]
      omega
  · rw [Nat.zero_add, Lib.bytesWorld_cell w e s i hi]
    have h : i < s.data.toList.length := by simpa using hi
    simp only [numsOf, List.getElem?_map, List.getElem?_eq_getElem h, Option.map_some, Option.getD_some, List.getD_eq_getElem?_getD]
  · have hsz : (Lib.bytesCells w e s).size = grownCap w s.size 0 e := by
      simp [Lib.bytesCells]
      omega
    refine ⟨?_, ?_⟩
    · have hj' : j < (Lib.bytesCells w e s).size := by omega
      simp only [World.cell?, Lib.bytesWorld_at_new]
      by_cases hjs : j < s.size
      · exact ⟨(s.data[j]'hjs).toNat, by simp [Lib.bytesCells, Array.getElem?_append, hjs]⟩
      · refine ⟨0, ?_⟩
        have h1 : ¬ j < (s.data.map fun b => Value.int .u8 b.toNat).size := by simpa using hjs
        have h2 : j - (s.data.map fun b => Value.int .u8 b.toNat).size < grownCap w s.size 0 e - s.size := by simp; omega
        rw [Lib.bytesCells, Array.getElem?_append, if_neg h1, Array.getElem?_replicate, if_pos h2]
        rfl
    · simp only [World.frozen?, Lib.bytesWorld_at_new, hsz]
      simp
      omega
theorem bytesWorld_below (w : World) (e : TypeId) (s : ByteArray) : Below w.heap.size w (Lib.bytesWorld w e s) := by
  refine ⟨?_, ?_, ?_, by rw [Lib.bytesWorld_size]; omega, fun b hb => Lib.bytesWorld_at_old w e s b hb⟩ <;> rfl

/-- A list of bytes. -/
def Byt (l : List Int) : Prop := ∀ x ∈ l, 0 ≤ x ∧ x ≤ 255
theorem Byt.get {l : List Int} (h : Byt l) (i : Nat) : 0 ≤ l[i]?.getD 0 ∧ l[i]?.getD 0 ≤ 255 := by
  by_cases hi : i < l.length
  · rw [List.getElem?_eq_getElem hi]
    exact h _ (List.getElem_mem hi)
  · rw [List.getElem?_eq_none (by omega)]
    simp
theorem Byt.of {l : List Int} (h : ∀ i : Nat, 0 ≤ l[i]?.getD 0 ∧ l[i]?.getD 0 ≤ 255) : Byt l := by
  intro x hx
  obtain ⟨i, hi, rfl⟩ := List.getElem_of_mem hx
  have := h i
  rwa [List.getElem?_eq_getElem hi] at this
theorem Byt.app {l m : List Int} (h : Byt l) (k : Byt m) : Byt (l ++ m) := by
  intro x hx
  rcases List.mem_append.1 hx with hx | hx
  · exact h x hx
  · exact k x hx
theorem Byt.cons {a : Int} {l : List Int} (ha : 0 ≤ a ∧ a ≤ 255) (h : Byt l) : Byt (a :: l) := by
  intro x hx
  rcases List.mem_cons.1 hx with rfl | hx
  · exact ha
  · exact h x hx
theorem Byt.nil : Byt [] := fun x hx => by cases hx
theorem Bs.byt {w : World} {a : Option Addr} {len : Nat} {bs : List Int} (h : Bs w a len bs) : Byt bs := Byt.of h.2.2.1

theorem numsOf_append (s t : ByteArray) : numsOf (s ++ t) = numsOf s ++ numsOf t := by simp [numsOf]
theorem numsOf_len (s : ByteArray) : (numsOf s).length = s.size := by simp [numsOf]
theorem numsOf_nums {bs : List Int} (h : Byt bs) : numsOf (strOfNums bs) = bs := by
  unfold numsOf
  rw [strOfNums_data, List.map_map]
  have : ∀ x ∈ bs, ((fun b : UInt8 => (b.toNat : Int)) ∘ fun n : Int => UInt8.ofNat n.toNat) x = x := by
    intro x hx
    obtain ⟨h0, h1⟩ := h x hx
    simp
    omega
  rw [List.map_congr_left this, List.map_id']
theorem Bs.str {w : World} {a : Option Addr} {len cap : Nat} {bs : List Int} (h : Bs w a len bs) : (convert 27 9 (.slice a len cap)).run Tryz.prog w = .ok (.string (strOfNums bs)) w := by
  obtain ⟨hl, _, _, h4⟩ := h
  rcases h4 with h4 | ⟨b, off, rfl, _, hc⟩
  · subst h4
    have e : bs = [] := List.eq_nil_of_length_eq_zero hl
    subst e
    cases a with
    | none =>
      rw [run_convert_bytes_nil w 27 5 Tryz.underlying27 Tryz.underlying5 0 cap 9 Tryz.underlying9]
      rfl
    | some x =>
      have hl : (loadCells x 0).run Tryz.prog w = .ok (([] : List Int).map (Value.int .u8)).toArray w := rfl
      rw [run_convert_bytes_string w 27 9 5 _ 0 cap Tryz.underlying27 Tryz.underlying5 Tryz.underlying9, run_bytesToString w _ 0 cap [] hl]
      rfl
  · exact run_convert_bytes_arg w 27 5 Tryz.underlying27 Tryz.underlying5 b off len cap bs hl (fun i hi => by rw [hc i hi, List.getD_eq_getElem?_getD]) 9 Tryz.underlying9
end Go.Proofs.YtganfiajhokkmaaGreatDoor

/- TokF -/
namespace Go.Proofs.YtganfiajhokkmaaGreatDoor
open Go.ChangeShapes Go.WideShapes Go.ChangeAt Go.RowKit Go.Joins

theorem own : ownKnob Tryz.prog.godebug = none := by kernel_rfl
theorem laidOut : laidOutB Tryz.prog = true := by kernel_rfl
theorem Tryz.cells95 : Tryz.prog.cellsOf 95 = 4 := by kernel_rfl
theorem Tryz.cells5 : Tryz.prog.cellsOf 5 = 1 := by kernel_rfl

theorem cell_lt {w : World} {a : Addr} {v : Value} (h : w.cell? a = some v) : a.block < w.heap.size := by
  apply Classical.byContradiction
  intro hn
  have e : w.heap[a.block]? = none := by simp; omega
  simp [World.cell?, e] at h

theorem Bs.of_cells {W : World} {x : Addr} {l c : Nat} {zs : List Int} (hl : l ≤ c) (hz : zs.length = c) (h20 : l ≤ 1048576)
    (hcell : ∀ i, i < zs.length → W.cell? (x.add i) = some (.int .u8 (zs.getD i 0))) (hwz : ∀ n ∈ zs, (Lit.int .u8 n).wf = true) : Bs W (some x) l (zs.take l) := by
  refine ⟨by simp; omega, h20, fun i => ?_, ?_⟩
  · by_cases hi : i < (zs.take l).length
    · have hm : (zs.take l)[i] ∈ zs := List.mem_of_mem_take (List.getElem_mem hi)
      have := bounds_u8 (hwz _ hm)
      rw [List.getElem?_eq_getElem hi]
      exact this
    · rw [List.getElem?_eq_none (by omega)]
      simp
  · by_cases h0 : l = 0
    · exact .inl h0
    · right
      obtain ⟨b, off, spot⟩ := x
      have hc0 := hcell 0 (by omega)
      have hspot : spot = none := by simpa [Addr.add] using World.cell?_spot hc0
      subst hspot
      refine ⟨b, off, rfl, by simpa [Addr.add] using cell_lt hc0, fun i hi => ?_⟩
      have h := hcell i (by omega)
      have ea : (⟨b, off, none⟩ : Addr).add i = ⟨b, off + i, none⟩ := by
        by_cases h0 : i = 0 <;> simp [Addr.add, h0]
      rw [ea] at h
      rw [h, List.getElem?_take, if_pos hi, List.getD_eq_getElem?_getD]

end Go.Proofs.YtganfiajhokkmaaGreatDoor

/- MrkA -/
namespace Go.Proofs.YtganfiajhokkmaaGreatDoor
open Go.RowKit Go.Deep

/-- All blocks but g are as they were. -/
structure But (g : Nat) (w w' : World) : Prop where
  os : w'.os = w.os
  tape : w'.tape = w.tape
  output : w'.output = w.output
  size : w'.heap.size = w.heap.size
  block : ∀ b, b ≠ g → w'.heap[b]? = w.heap[b]?
theorem But.refl (g : Nat) (w : World) : But g w w := ⟨rfl, rfl, rfl, rfl, fun _ _ => rfl⟩
theorem But.set {g : Nat} {w w' : World} (h : But g w w') (i : Nat) (v : Value) : But g w (w'.setCell ⟨g, i, none⟩ v) :=
  ⟨h.os, h.tape, h.output, by simpa using h.size, fun b hb => (Below.heap_setCell _ _ _ _ hb).trans (h.block b hb)⟩
theorem But.cell {g : Nat} {w w' : World} (h : But g w w') {p : Addr} (hp : p.block ≠ g) : w'.cell? p = w.cell? p := World.cell?_of_block (w := w) (h.block p.block hp)
theorem But.frozen {g : Nat} {w w' : World} (h : But g w w') {p : Addr} (hp : p.block ≠ g) : w'.frozen? p = w.frozen? p := World.frozen?_of_block (w := w) (h.block p.block hp)
theorem But.below {g B : Nat} {w w' : World} (h : But g w w') (hg : B ≤ g) : Below B w w' :=
  ⟨h.os, h.tape, h.output, by rw [h.size]; exact Nat.le_refl _, fun b hb => h.block b (by omega)⟩

theorem set_same {w : World} {g i : Nat} {u v : Value} (h : w.cell? ⟨g, i, none⟩ = some u) : (w.setCell ⟨g, i, none⟩ v).cell? ⟨g, i, none⟩ = some v := by
  simp [go_sem, h]
theorem set_other {w : World} {g i j : Nat} {v : Value} (h : i ≠ j) : (w.setCell ⟨g, j, none⟩ v).cell? ⟨g, i, none⟩ = w.cell? ⟨g, i, none⟩ := by
  simp [go_sem]

theorem markByteS_own (g len cap : Nat) (k : Int) (w : World) (hk : 0 ≤ k) (hk2 : k ≤ 4194304) (hlen : len ≤ 1048576)
    (hc : ∀ i, i < len → ∃ v, w.cell? ⟨g, i, none⟩ = some (.int .u8 v)) (hf : ∀ i, i < len → w.frozen? ⟨g, i, none⟩ = false) :
    Calls Tryz.prog 11 #[.slice (some ⟨g, 0, none⟩) len cap, .int .i64 k] w fun e w' =>
      e = .returned (.int .i64 (k + len)) ∧ But g w w' ∧ (∀ i, i < len → w'.cell? ⟨g, i, none⟩ = some (.int .u8 ((k + (i : Nat)) % 256))) ∧ (∀ i, i < len → w'.frozen? ⟨g, i, none⟩ = false) := by
  go_enter Tryz.func11, Tryz.ntmps11
  go_wp2_with fail
  go_loopw [1, 5] (fun a b wr => ∃ j : Nat, j ≤ len ∧ a = .int .i64 (k + j) ∧ b = .int .i64 j ∧ But g w wr ∧ (∀ i : Nat, i < j → wr.cell? ⟨g, i, none⟩ = some (.int .u8 ((k + i) % 256))) ∧ (∀ i, i < len → ∃ v, wr.cell? ⟨g, i, none⟩ = some (.int .u8 v)) ∧ (∀ i, i < len → wr.frozen? ⟨g, i, none⟩ = false))
    (fun _ b _ => len - (intOf b).toNat)
  case atStart => exact ⟨0, Nat.zero_le _, by simp, rfl, But.refl _ _, fun i hi => by omega, hc, hf⟩
  case round =>
    obtain ⟨j, hj, rfl, rfl, hbut, hm1, hc1, hf1⟩ := hrel
    have HM : Hid (∀ i : Nat, i < j → wr.cell? ⟨g, i, none⟩ = some (.int .u8 ((k + i) % 256))) := hm1
    have HC : Hid (∀ i, i < len → ∃ v, wr.cell? ⟨g, i, none⟩ = some (.int .u8 v)) := hc1
    have HF : Hid (∀ i, i < len → wr.frozen? ⟨g, i, none⟩ = false) := hf1
    clear hc hf hc1 hf1 hm1
    by_cases hlt : j < len
    · obtain ⟨v, hv⟩ := HC.out j hlt
      have hfv := HF.out j hlt
      go_wp2
      go_roundw
      case rel =>
        refine ⟨j + 1, by omega, by go_num, by go_num, hbut.set _ _, fun i hi => ?_, fun i hi => ?_, fun i hi => ?_⟩
        · by_cases e : i = j
          · subst e
            exact set_same hv
          · rw [set_other (by omega)]
            exact HM.out i (by omega)
        · by_cases e : i = j
          · subst e
            exact ⟨_, set_same hv⟩
          · obtain ⟨u, hu⟩ := HC.out i hi
            exact ⟨u, by rw [set_other (by omega)]; exact hu⟩
        · rw [World.frozen?_setCell]
          exact HF.out i hi
      case measure => simp [intOf]; omega
    · obtain rfl : j = len := by omega
      have HM' := HM
      clear HM
      go_wp2
      go_ret
      exact ⟨rfl, hbut, HM'.out, HF.out⟩

/-- toTerm, with the world written out: the text lies in a new block of its own. -/
theorem toTerm_own (k n s : Int) (a : Option Addr) (len cap : Nat) (bs : List Int) (w : World) (hB : Bs w a len bs) :
    Calls Tryz.prog 85 #[.agg #[.int .i64 k, .slice a len cap, .int .i64 n, .int .i64 s]] w fun e w' =>
      e = .returned (.agg #[.int .i64 k, .slice (some ⟨w.heap.size + 1 + 1 + 1, 0, none⟩) len len, .int .i64 n, .int .i64 s]) ∧ ∃ o1 o2 o3, w' = (((w.alloc o1).alloc o2).alloc o3).alloc (.cells (cellsOf bs) 5) := by
  have hB3 : ∀ o1 o2 o3, Bs (((w.alloc o1).alloc o2).alloc o3) a len bs := fun o1 o2 o3 => hB.below (bl_alloc (bl_alloc (bl_alloc (Below.refl _ _) _) _) _)
  clear hB
  go_enter Tryz.func85, Tryz.ntmps85
  go_wp2_with (go_at_call 39; refine (toByteS_any a len cap bs _ (hB3 _ _ _)).mono ?_; rintro e w1 ⟨rfl, rfl⟩)
  simp [bodyPost, results, Tryz.results85, go_sem]
  exact ⟨_, _, _, rfl⟩

end Go.Proofs.YtganfiajhokkmaaGreatDoor

/- OwnA -/
namespace Go.Proofs.YtganfiajhokkmaaGreatDoor
open Go.RowKit Go.Deep

/-- A text of the call's own in block g: what it holds, and that it may be written. -/
def OwnT (w : World) (g len : Nat) (bs : List Int) : Prop :=
  Bs w (some ⟨g, 0, none⟩) len bs ∧ g < w.heap.size ∧ (∀ i, i < len → ∃ v, w.cell? ⟨g, i, none⟩ = some (.int .u8 v)) ∧ (∀ i, i < len → w.frozen? ⟨g, i, none⟩ = false)
theorem OwnT.below {w w' : World} {g len : Nat} {bs : List Int} (h : OwnT w g len bs) (hb : Below w.heap.size w w') : OwnT w' g len bs := by
  obtain ⟨h1, h2, h3, h4⟩ := h
  refine ⟨h1.below hb, Nat.lt_of_lt_of_le h2 hb.size, fun i hi => ?_, fun i hi => (hb.frozen (p := ⟨g, i, none⟩) h2).trans (h4 i hi)⟩
  obtain ⟨v, hv⟩ := h3 i hi
  exact ⟨v, (hb.cell (p := ⟨g, i, none⟩) h2).trans hv⟩
theorem Bs.but {w w' : World} {g b len : Nat} {bs : List Int} (h : Bs w (some ⟨b, 0, none⟩) len bs) (hb : But g w w') (hne : b ≠ g) : Bs w' (some ⟨b, 0, none⟩) len bs := by
  obtain ⟨h1, h2, h3, h4⟩ := h
  refine ⟨h1, h2, h3, ?_⟩
  rcases h4 with h4 | ⟨b', off, ha, hlt, hc⟩
  · exact .inl h4
  · cases ha
    exact .inr ⟨b, 0, rfl, by rw [hb.size]; exact hlt, fun i hi => (hb.cell (p := ⟨b, 0 + i, none⟩) hne).trans (hc i hi)⟩
theorem OwnT.but {w w' : World} {g b len : Nat} {bs : List Int} (h : OwnT w b len bs) (hb : But g w w') (hne : b ≠ g) : OwnT w' b len bs := by
  obtain ⟨h1, h2, h3, h4⟩ := h
  refine ⟨h1.but hb hne, by rw [hb.size]; exact h2, fun i hi => ?_, fun i hi => (hb.frozen (p := ⟨b, i, none⟩) hne).trans (h4 i hi)⟩
  obtain ⟨v, hv⟩ := h3 i hi
  exact ⟨v, (hb.cell (p := ⟨b, i, none⟩) hne).trans hv⟩
theorem At4.but {w w' : World} {g b : Nat} {v0 v1 v2 v3 : Value} (h : At4 w b v0 v1 v2 v3) (hb : But g w w') (hne : b ≠ g) : At4 w' b v0 v1 v2 v3 := by
  obtain ⟨hl, h0, h1, h2, h3⟩ := h
  exact ⟨by rw [hb.size]; exact hl, (hb.cell (p := ⟨b, 0, none⟩) hne).trans h0, (hb.cell (p := ⟨b, 1, none⟩) hne).trans h1, (hb.cell (p := ⟨b, 2, none⟩) hne).trans h2, (hb.cell (p := ⟨b, 3, none⟩) hne).trans h3⟩
/-- toTerm: the text lies in a new block of its own; the world written out. -/
theorem toTerm_out (k n s : Int) (a : Option Addr) (len cap : Nat) (bs : List Int) (w : World) (hB : Bs w a len bs) :
    Calls Tryz.prog 85 #[.agg #[.int .i64 k, .slice a len cap, .int .i64 n, .int .i64 s]] w fun e w' =>
      e = .returned (.agg #[.int .i64 k, .slice (some ⟨w.heap.size + 1 + 1 + 1, 0, none⟩) len len, .int .i64 n, .int .i64 s]) ∧ ∃ o1 o2 o3, OwnT w' (w.heap.size + 1 + 1 + 1) len bs ∧ w' = (((w.alloc o1).alloc o2).alloc o3).alloc (.cells (cellsOf bs) 5) := by
  refine (toTerm_own k n s a len cap bs w hB).mono ?_
  obtain ⟨hl, h2, h3, _⟩ := hB
  rintro e w' ⟨rfl, o1, o2, o3, rfl⟩
  refine ⟨rfl, o1, o2, o3, ⟨?_, by simp, fun i hi => ?_, fun i hi => ?_⟩, rfl⟩
  · have := Bs.made (((w.alloc o1).alloc o2).alloc o3) bs len hl h2 h3
    simpa using this
  · have hi' : i < bs.length := by omega
    exact ⟨bs[i], by simp [go_sem, cellsOf, hi']⟩
  · have hi' : i < bs.length := by omega
    simp [go_sem, cellsOf]
/-- .. the world hidden. -/
theorem toTerm_new (k n s : Int) (a : Option Addr) (len cap : Nat) (bs : List Int) (w : World) (hB : Bs w a len bs) :
    Calls Tryz.prog 85 #[.agg #[.int .i64 k, .slice a len cap, .int .i64 n, .int .i64 s]] w fun e w' =>
      ∃ g, e = .returned (.agg #[.int .i64 k, .slice (some ⟨g, 0, none⟩) len len, .int .i64 n, .int .i64 s]) ∧ OwnT w' g len bs ∧ w.heap.size ≤ g ∧ Below w.heap.size w w' := by
  refine (toTerm_out k n s a len cap bs w hB).mono ?_
  rintro e w' ⟨rfl, o1, o2, o3, hO, rfl⟩
  exact ⟨_, rfl, hO, by omega, bl_alloc (bl_alloc (bl_alloc (bl_a _) _) _) _⟩
end Go.Proofs.YtganfiajhokkmaaGreatDoor

/- TriA -/
namespace Go.Proofs.YtganfiajhokkmaaGreatDoor
open Go.RowKit Go.Deep

/-- A term's parts: kind, text's place, length and room, number, scale. -/
structure Tm where
  k : Int
  a : Option Addr
  len : Nat
  cap : Nat
  n : Int
  s : Int
/-- A term whose text lies in a block of its own. -/
def Tm.own (t : Tm) (g : Nat) : Tm := ⟨t.k, some ⟨g, 0, none⟩, t.len, t.len, t.n, t.s⟩
/-- Its numbers are of 64 bits. -/
def Tm.fits (t : Tm) : Prop := -9223372036854775808 ≤ t.n ∧ t.n ≤ 9223372036854775807 ∧ -9223372036854775808 ≤ t.s ∧ t.s ≤ 9223372036854775807
/-- Three terms in a row from place o on in block b. -/
def At12 (w : World) (b : Nat) (t u v : Tm) : Prop :=
  b < w.heap.size ∧
    (w.cell? ⟨b, 0, none⟩ = some (.int .i64 t.k) ∧ w.cell? ⟨b, 1, none⟩ = some (.slice t.a t.len t.cap) ∧ w.cell? ⟨b, 2, none⟩ = some (.int .i64 t.n) ∧ w.cell? ⟨b, 3, none⟩ = some (.int .i64 t.s)) ∧
    (w.cell? ⟨b, 4, none⟩ = some (.int .i64 u.k) ∧ w.cell? ⟨b, 5, none⟩ = some (.slice u.a u.len u.cap) ∧ w.cell? ⟨b, 6, none⟩ = some (.int .i64 u.n) ∧ w.cell? ⟨b, 7, none⟩ = some (.int .i64 u.s)) ∧
    (w.cell? ⟨b, 8, none⟩ = some (.int .i64 v.k) ∧ w.cell? ⟨b, 9, none⟩ = some (.slice v.a v.len v.cap) ∧ w.cell? ⟨b, 10, none⟩ = some (.int .i64 v.n) ∧ w.cell? ⟨b, 11, none⟩ = some (.int .i64 v.s))
theorem At12.below {w w' : World} {b : Nat} {t u v : Tm} (h : At12 w b t u v) (hb : Below w.heap.size w w') : At12 w' b t u v := by
  obtain ⟨hl, h⟩ := h
  have e : ∀ i, w'.cell? ⟨b, i, none⟩ = w.cell? ⟨b, i, none⟩ := fun i => hb.cell (p := ⟨b, i, none⟩) hl
  refine ⟨Nat.lt_of_lt_of_le hl hb.size, ?_⟩
  simp only [e]
  exact h
/-- .. and they may be written. -/
def Own12 (w : World) (b : Nat) (t u v : Tm) : Prop := At12 w b t u v ∧ ∀ i, i < 12 → w.frozen? ⟨b, i, none⟩ = false
theorem Own12.below {w w' : World} {b : Nat} {t u v : Tm} (h : Own12 w b t u v) (hb : Below w.heap.size w w') : Own12 w' b t u v :=
  ⟨h.1.below hb, fun i hi => (hb.frozen (p := ⟨b, i, none⟩) h.1.1).trans (h.2 i hi)⟩
/-- A term's four cells written at places i, i+1, i+2, i+3. -/
def put4 (w : World) (b i0 i1 i2 i3 : Nat) (t : Tm) : World := (((w.setCell ⟨b, i0, none⟩ (.int .i64 t.k)).setCell ⟨b, i1, none⟩ (.slice t.a t.len t.cap)).setCell ⟨b, i2, none⟩ (.int .i64 t.n)).setCell ⟨b, i3, none⟩ (.int .i64 t.s)
theorem put4_size {w : World} {b i0 i1 i2 i3 : Nat} {x : Tm} : (put4 w b i0 i1 i2 i3 x).heap.size = w.heap.size := by simp [put4]
theorem Bs.put {w : World} {g len : Nat} {bs : List Int} {c i0 i1 i2 i3 : Nat} {x : Tm} (h : Bs w (some ⟨g, 0, none⟩) len bs) (hne : g ≠ c) : Bs (put4 w c i0 i1 i2 i3 x) (some ⟨g, 0, none⟩) len bs := by
  obtain ⟨h1, h2, h3, h4⟩ := h
  refine ⟨h1, h2, h3, ?_⟩
  rcases h4 with h4 | ⟨b', off, ha, hlt, hc⟩
  · exact .inl h4
  · cases ha
    refine .inr ⟨g, 0, rfl, by rw [put4_size]; exact hlt, fun i hi => ?_⟩
    unfold put4
    rw [World.cell?_of_block (Below.heap_setCell _ _ _ _ (by exact hne)), World.cell?_of_block (Below.heap_setCell _ _ _ _ (by exact hne)), World.cell?_of_block (Below.heap_setCell _ _ _ _ (by exact hne)), World.cell?_of_block (Below.heap_setCell _ _ _ _ (by exact hne))]
    exact hc i hi
theorem OwnT.put {w : World} {g len : Nat} {bs : List Int} {c i0 i1 i2 i3 : Nat} {x : Tm} (h : OwnT w g len bs) (hne : g ≠ c) : OwnT (put4 w c i0 i1 i2 i3 x) g len bs := by
  obtain ⟨h1, h2, h3, h4⟩ := h
  have e : ∀ i, (put4 w c i0 i1 i2 i3 x).cell? ⟨g, i, none⟩ = w.cell? ⟨g, i, none⟩ := fun i => by
    unfold put4
    rw [World.cell?_of_block (Below.heap_setCell _ _ _ _ (by exact hne)), World.cell?_of_block (Below.heap_setCell _ _ _ _ (by exact hne)), World.cell?_of_block (Below.heap_setCell _ _ _ _ (by exact hne)), World.cell?_of_block (Below.heap_setCell _ _ _ _ (by exact hne))]
  exact ⟨h1.put hne, by rw [put4_size]; exact h2, fun i hi => by rw [e i]; exact h3 i hi, fun i hi => by simp [put4, h4 i hi]⟩
end Go.Proofs.YtganfiajhokkmaaGreatDoor

/- GraA -/
namespace Go.Proofs.YtganfiajhokkmaaGreatDoor
open Go.RowKit Go.Deep

/-- Three terms in a row from place o on in block b. -/
def Row12 (w : World) (b o : Nat) (t u v : Tm) : Prop :=
  (w.cell? ⟨b, o, none⟩ = some (.int .i64 t.k) ∧ w.cell? ⟨b, o + 1, none⟩ = some (.slice t.a t.len t.cap) ∧ w.cell? ⟨b, o + 2, none⟩ = some (.int .i64 t.n) ∧ w.cell? ⟨b, o + 3, none⟩ = some (.int .i64 t.s)) ∧
    (w.cell? ⟨b, o + 4, none⟩ = some (.int .i64 u.k) ∧ w.cell? ⟨b, o + 5, none⟩ = some (.slice u.a u.len u.cap) ∧ w.cell? ⟨b, o + 6, none⟩ = some (.int .i64 u.n) ∧ w.cell? ⟨b, o + 7, none⟩ = some (.int .i64 u.s)) ∧
    (w.cell? ⟨b, o + 8, none⟩ = some (.int .i64 v.k) ∧ w.cell? ⟨b, o + 9, none⟩ = some (.slice v.a v.len v.cap) ∧ w.cell? ⟨b, o + 10, none⟩ = some (.int .i64 v.n) ∧ w.cell? ⟨b, o + 11, none⟩ = some (.int .i64 v.s))
/-- n triples behind an address. -/
def Rows (w : World) (a : Option Addr) (n : Nat) (T U V : Nat → Tm) : Prop :=
  n = 0 ∨ ∃ b off, a = some ⟨b, off, none⟩ ∧ b < w.heap.size ∧ ∀ i, i < n → Row12 w b (off + i * 12) (T i) (U i) (V i)
theorem Row12.of_block {w w' : World} {b o : Nat} {t u v : Tm} (h : Row12 w b o t u v) (hb : w'.heap[b]? = w.heap[b]?) : Row12 w' b o t u v := by
  have e : ∀ i, w'.cell? ⟨b, i, none⟩ = w.cell? ⟨b, i, none⟩ := fun i => World.cell?_of_block (w := w) (a := ⟨b, i, none⟩) hb
  unfold Row12
  simp only [e]
  exact h
theorem Rows.below {w w' : World} {a : Option Addr} {n : Nat} {T U V : Nat → Tm} (h : Rows w a n T U V) (hb : Below w.heap.size w w') : Rows w' a n T U V := by
  rcases h with h | ⟨b, off, ha, hlt, hc⟩
  · exact .inl h
  · exact .inr ⟨b, off, ha, Nat.lt_of_lt_of_le hlt hb.size, fun i hi => (hc i hi).of_block (hb.block b hlt)⟩
/-- Their texts. -/
def Texts (w : World) (n : Nat) (T : Nat → Tm) (B : Nat → List Int) : Prop := ∀ i, i < n → Bs w (T i).a (T i).len (B i)
theorem Texts.below {w w' : World} {n : Nat} {T : Nat → Tm} {B : Nat → List Int} (h : Texts w n T B) (hb : Below w.heap.size w w') : Texts w' n T B := fun i hi => (h i hi).below hb

end Go.Proofs.YtganfiajhokkmaaGreatDoor

/- StrC -/
namespace Go.Proofs.YtganfiajhokkmaaGreatDoor
open Go.RowKit Go.Deep
set_option maxRecDepth 100000

/-- A term's parts and what its text holds. -/
structure TB where
  t : Tm
  b : List Int
def TB.td (x : TB) : TD := ⟨x.t.k, x.b, x.t.n, x.t.s⟩
def enc4 (t : Tm) : List Value := [.int .i64 t.k, .slice t.a t.len t.cap, .int .i64 t.n, .int .i64 t.s]
/-- The cells of a row of terms. -/
def flat4 (l : List TB) : List Value := l.flatMap fun x => enc4 x.t
theorem flat4_len (l : List TB) : (flat4 l).length = l.length * 4 := by
  induction l with
  | nil => rfl
  | cons x l ih => simp only [flat4, List.flatMap_cons, List.length_append] at *; rw [ih]; simp [enc4]; omega
theorem flat4_take (l : List TB) (i : Nat) : flat4 (l.take i) = (flat4 l).take (i * 4) := by
  induction l generalizing i with
  | nil => simp [flat4]
  | cons x l ih =>
    cases i with
    | zero => simp [flat4]
    | succ i =>
      have e : flat4 (x :: l) = enc4 x.t ++ flat4 l := rfl
      have e2 : flat4 (x :: l.take i) = enc4 x.t ++ flat4 (l.take i) := rfl
      rw [List.take_succ_cons, e, e2, ih, show (i + 1) * 4 = (enc4 x.t).length + i * 4 by simp [enc4]; omega, List.take_length_add_append]
theorem flat4_drop (l : List TB) (i : Nat) : flat4 (l.drop i) = (flat4 l).drop (i * 4) := by
  induction l generalizing i with
  | nil => simp [flat4]
  | cons x l ih =>
    cases i with
    | zero => simp
    | succ i =>
      have e : flat4 (x :: l) = enc4 x.t ++ flat4 l := rfl
      rw [List.drop_succ_cons, e, ih, show (i + 1) * 4 = (enc4 x.t).length + i * 4 by simp [enc4]; omega, List.drop_length_add_append]

/-- Terms behind an address. -/
def TRow (w : World) (a : Option Addr) (l : List TB) : Prop := l = [] ∨ ∃ b off, a = some ⟨b, off, none⟩ ∧ b < w.heap.size ∧ ∀ j u, (flat4 l)[j]? = some u → w.cell? ⟨b, off + j, none⟩ = some u
theorem TRow.below {w w' : World} {a : Option Addr} {l : List TB} (h : TRow w a l) (hb : Below w.heap.size w w') : TRow w' a l := by
  rcases h with h | ⟨b, off, ha, hl, hc⟩
  · exact .inl h
  · exact .inr ⟨b, off, ha, Nat.lt_of_lt_of_le hl hb.size, fun j u hu => (hb.cell (p := ⟨b, off + j, none⟩) hl).trans (hc j u hu)⟩
/-- Their texts. -/
def TTxt (w : World) (l : List TB) : Prop := ∀ x ∈ l, Bs w x.t.a x.t.len x.b
theorem TTxt.below {w w' : World} {l : List TB} (h : TTxt w l) (hb : Below w.heap.size w w') : TTxt w' l := fun x hx => (h x hx).below hb

/-- A row of terms of the call's own, or none as yet. -/
def OwnTR (w : World) (B : Nat) (v : Value) (l : List TB) : Prop := w.ownsRow B 52 4 v l.length (flat4 l) ∧ ∀ g, v.ownBlock = some g → B ≤ g ∧ g < w.heap.size
theorem OwnTR.nil (w : World) (B : Nat) : OwnTR w B (.slice none 0 0) [] := ⟨World.ownsRow_nil _ _ _ _, fun g h => by cases h⟩
theorem OwnTR.below {w w' : World} {B : Nat} {v : Value} {l : List TB} (h : OwnTR w B v l) (hb : Below w.heap.size w w') : OwnTR w' B v l := by
  obtain ⟨⟨h1, h2⟩, hl⟩ := h
  refine ⟨⟨h1, ?_⟩, fun g hg => ⟨(hl g hg).1, Nat.lt_of_lt_of_le (hl g hg).2 hb.size⟩⟩
  rcases h2 with h2 | ⟨g', cap', cur, hv, hB, hh, r⟩
  · exact .inl h2
  · refine .inr ⟨g', cap', cur, hv, hB, ?_, r⟩
    have := (hl g' (by rw [hv]; rfl)).2
    rw [hb.block g' this]
    exact hh
theorem OwnTR.form {w : World} {B : Nat} {v : Value} {l : List TB} (h : OwnTR w B v l) : ∃ a cap, v = .slice a l.length cap ∧ TRow w a l ∧ l.length ≤ cap ∧ (a = none → l = [] ∧ cap = 0) ∧ ∀ x, a = some x → ∃ g, x = ⟨g, 0, none⟩ ∧ B ≤ g ∧ g < w.heap.size := by
  rcases h.1.2 with ⟨rfl, h0⟩ | ⟨g, cap, cur, rfl, hB, hh, hle, _, hsz, htk⟩
  · have := List.eq_nil_of_length_eq_zero h0
    subst this
    exact ⟨none, 0, rfl, .inl rfl, by simp, fun _ => ⟨rfl, rfl⟩, fun x hx => by cases hx⟩
  · have hlt := (h.2 g rfl).2
    refine ⟨some ⟨g, 0, none⟩, cap, rfl, .inr ⟨g, 0, rfl, hlt, fun j u hu => ?_⟩, hle, fun hx => (by cases hx), fun x hx => by cases hx; exact ⟨g, rfl, hB, hlt⟩⟩
    rw [Nat.zero_add]
    have hj : j < l.length * 4 := by
      apply Classical.byContradiction
      intro hn
      rw [List.getElem?_eq_none (by rw [flat4_len]; omega)] at hu
      cases hu
    rw [← htk, List.getElem?_take, if_pos hj] at hu
    simp only [World.cell?, hh]
    simpa using hu

theorem Tryz.info52 : (Tryz.prog.info? 52).map (fun i => (i.zero, i.size, i.bytes)) = some (some (.agg #[.int .i64 0, .slice none 0 0, .int .i64 0, .int .i64 0]), 4, 48) := by kernel_rfl

/-- The cells of some of them. -/
theorem TRow.news {w : World} {b off : Nat} {l : List TB} (hc : ∀ j u, (flat4 l)[j]? = some u → w.cell? ⟨b, off + j, none⟩ = some u) (i m : Nat) :
    ∀ j u, (flat4 ((l.drop i).take m))[j]? = some u → w.cell? ((⟨b, off + i * 4, none⟩ : Addr).add j) = some u := by
  intro j u hu
  have ea : (⟨b, off + i * 4, none⟩ : Addr).add j = ⟨b, off + (i * 4 + j), none⟩ := by
    by_cases h0 : j = 0 <;> simp [Addr.add, h0, Nat.add_assoc]
  rw [ea]
  refine hc _ _ ?_
  rw [flat4_take, flat4_drop, List.getElem?_take] at hu
  split at hu
  · rw [List.getElem?_drop] at hu; exact hu
  · cases hu
end Go.Proofs.YtganfiajhokkmaaGreatDoor
