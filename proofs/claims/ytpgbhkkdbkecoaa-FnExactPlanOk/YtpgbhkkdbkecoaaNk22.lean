/- Texts put together: TreK -/
import Derived.Test.YtpgbhkkdbkecoaaNk13
import Derived.Test.YtpgbhkkdbkecoaaNk02
/- TreK -/
namespace Go.Proofs.Ytpgbhkkdbkecoaa
open Go.RowKit Go.Deep
set_option maxRecDepth 100000

def SL.v (x : SL) : Value := .slice x.a x.len x.cap
/-- A list of texts of the call's own: the texts themselves lie in the world w0. -/
structure VL (w0 w : World) (B : Nat) (v : Value) (L : List SL) : Prop where
  own : w.ownsRow B 23 1 v L.length (L.map SL.v)
  lo : ∀ g, v.ownBlock = some g → B ≤ g ∧ g < w.heap.size
  txt : ∀ x ∈ L, BsF 0 w0 x
theorem VL.nil (w0 w : World) (B : Nat) : VL w0 w B (.slice none 0 0) [] := ⟨World.ownsRow_nil _ _ _ _, fun g h => (by cases h), fun x hx => (by cases hx)⟩
theorem VL.keep {w0 w w' : World} {B : Nat} {v : Value} {L : List SL} (h : VL w0 w B v L) (hs : w.heap.size ≤ w'.heap.size) (hb : ∀ g, v.ownBlock = some g → w'.heap[g]? = w.heap[g]?) : VL w0 w' B v L := by
  obtain ⟨⟨h1, h2⟩, hl, ht⟩ := h
  refine ⟨⟨h1, ?_⟩, fun c hc => ⟨(hl c hc).1, Nat.lt_of_lt_of_le (hl c hc).2 hs⟩, ht⟩
  rcases h2 with h2 | ⟨g', cap', cur, hv, hB, hh, r⟩
  · exact .inl h2
  · refine .inr ⟨g', cap', cur, hv, hB, ?_, r⟩
    rw [hb g' (by rw [hv]; rfl)]
    exact hh
theorem VL.below {w0 w w' : World} {B : Nat} {v : Value} {L : List SL} (h : VL w0 w B v L) (hb : Below w.heap.size w w') : VL w0 w' B v L := h.keep hb.size fun g hg => hb.block g (h.lo g hg).2
theorem VL.form {w0 w : World} {B : Nat} {v : Value} {L : List SL} (h : VL w0 w B v L) : ∃ a cap, v = .slice a L.length cap ∧ (L = [] ∨ ∃ g, a = some ⟨g, 0, none⟩ ∧ B ≤ g ∧ g < w.heap.size ∧ ∀ i x, L[i]? = some x → w.cell? ⟨g, i, none⟩ = some (.slice x.a x.len x.cap)) := by
  rcases h.own.2 with ⟨hv, h0⟩ | ⟨g, cap, cur, hv, hB, hh, hle, _, hsz, htk⟩
  · have := List.eq_nil_of_length_eq_zero h0
    subst this
    exact ⟨none, 0, hv, .inl rfl⟩
  · refine ⟨some ⟨g, 0, none⟩, cap, hv, .inr ⟨g, rfl, hB, (h.lo g (by rw [hv]; rfl)).2, fun i x hx => ?_⟩⟩
    have hi := (List.getElem?_eq_some_iff.1 hx).1
    have hu : (L.map SL.v)[i]? = some (.slice x.a x.len x.cap) := by rw [List.getElem?_map, hx]; rfl
    rw [← htk, List.getElem?_take, if_pos (by omega)] at hu
    simp only [World.cell?, hh]
    simpa using hu
def InL (b : List Int) (L : List SL) : Prop := b ∈ L.map SL.b
def addV (l : List (List Int)) (v : List Int) : List (List Int) := if v = [] ∨ v ∈ l then l else l ++ [v]
theorem addV_len (l : List (List Int)) (v : List Int) : (addV l v).length ≤ l.length + 1 := by
  unfold addV
  split <;> simp
/-- What adding to a list leaves: all blocks but the list's own; the new list's block is the elder one, or new. -/
structure Kp (v : Value) (w : World) (v' : Value) (w' : World) : Prop where
  os : w'.os = w.os
  tape : w'.tape = w.tape
  output : w'.output = w.output
  size : w.heap.size ≤ w'.heap.size
  block : ∀ b, b < w.heap.size → v.ownBlock ≠ some b → w'.heap[b]? = w.heap[b]?
  blk : ∀ g, v'.ownBlock = some g → v.ownBlock = some g ∨ w.heap.size ≤ g
theorem Kp.of_below {v : Value} {w w' : World} (h : Below w.heap.size w w') : Kp v w v w' := ⟨h.os, h.tape, h.output, h.size, fun b hb _ => h.block b hb, fun _ hg => .inl hg⟩
theorem Kp.trans {v v' v'' : Value} {w w' w'' : World} (h : Kp v w v' w') (k : Kp v' w' v'' w'') : Kp v w v'' w'' :=
  ⟨k.os.trans h.os, k.tape.trans h.tape, k.output.trans h.output, Nat.le_trans h.size k.size, fun b hb hn => (k.block b (Nat.lt_of_lt_of_le hb h.size) (fun e => by
    rcases h.blk b e with e' | e'
    · exact hn e'
    · omega)).trans (h.block b hb hn), fun g hg => by
    rcases k.blk g hg with e | e
    · exact h.blk g e
    · exact .inr (Nat.le_trans h.size e)⟩
theorem Kp.box {v v' : Value} {w w' : World} {b : Nat} {L : List Value} (h : Kp v w v' w') (hx : Box w b L) (hn : v.ownBlock ≠ some b) : Box w' b L := ⟨Nat.lt_of_lt_of_le hx.1 h.size, fun c u hu => (World.cell?_of_block (w := w) (a := ⟨b, c, none⟩) (h.block b hx.1 hn)).trans (hx.2 c u hu)⟩
theorem Kp.low {v v' : Value} {w w' : World} {B : Nat} (h : Kp v w v' w') (hv : ∀ g, v.ownBlock = some g → B ≤ g) (hB : B ≤ w.heap.size) : Below B w w' := ⟨h.os, h.tape, h.output, h.size, fun b hb => h.block b (by omega) (fun e => by have := hv b e; omega)⟩
theorem Kp.pre {v v' : Value} {w w1 w' : World} (h : Below w.heap.size w w1) (k : Kp v w1 v' w') : Kp v w v' w' := (Kp.of_below h).trans k
/-- What adding answers. -/
def AddAns (w0 : World) (B : Nat) (v : Value) (R : List (List Int)) (w : World) (e : Ending) (w' : World) : Prop := ∃ v' L', e = .returned v' ∧ VL w0 w' B v' L' ∧ L'.map SL.b = R ∧ Kp v w v' w'
theorem str_ne {a b : List Int} (ha : Byt a) (hb : Byt b) (h : a ≠ b) : strOfNums a ≠ strOfNums b := fun e => h (by rw [← numsOf_nums ha, ← numsOf_nums hb, e])
theorem str_ne2 {a b : List Int} (ha : Byt a) (hb : Byt b) (h : a ≠ b) : (strOfNums a).toList ≠ (strOfNums b).toList := fun e => h (by
  rw [Lib.strOfNums_toList, Lib.strOfNums_toList] at e
  rw [← numsOf_nums ha, ← numsOf_nums hb]
  show (a.map fun n => UInt8.ofNat n.toNat).map _ = (b.map fun n => UInt8.ofNat n.toNat).map _
  exact congrArg _ e)
set_option maxHeartbeats 2000000 in
theorem l4has_any (v : Value) (L : List SL) (x : SL) (B : Nat) (w0 w : World) (h : VL w0 w B v L) (hw : Below w0.heap.size w0 w) (hx : BsF 0 w0 x) (hn : L.length ≤ 1048576) :
    Calls Try.prog 76 #[v, .slice x.a x.len x.cap] w (Tells (InL x.b L) w) := by
  obtain ⟨a, cap, rfl, hf⟩ := h.form
  obtain ⟨n, hnn⟩ : ∃ n, n = L.length := ⟨_, rfl⟩
  have HN : Hid (n = L.length) := hnn
  have HT : Hid (∀ y ∈ L, BsF 0 w0 y) := h.txt
  have HX : Hid (BsF 0 w0 x) := hx
  have HW : Hid (Below w0.heap.size w0 w) := hw
  have HG : Hid (L = [] ∨ ∃ g, a = some ⟨g, 0, none⟩ ∧ B ≤ g ∧ g < w.heap.size ∧ ∀ i x, L[i]? = some x → w.cell? ⟨g, i, none⟩ = some (.slice x.a x.len x.cap)) := hf
  rw [← hnn] at hn ⊢
  clear h hw hx hf hnn
  go_enter Try.func76, Try.ntmps76
  go_wp2_with fail
  go_loopw [5] (fun i wr => ∃ k : Nat, k ≤ n ∧ i = .int .i64 k ∧ Hid (∀ j y, j < k → L[j]? = some y → y.b ≠ x.b) ∧ Hid (Below w.heap.size w wr)) (fun i _ => n - (intOf i).toNat)
  case atStart => exact ⟨0, Nat.zero_le _, rfl, fun j y hj => absurd hj (Nat.not_lt_zero _), Below.refl _ _⟩
  case round =>
    obtain ⟨k, hk, rfl, HNE, HB⟩ := hrel
    by_cases hlk : k < n
    · have hlkz : (k : Int) < (n : Int) := by omega
      obtain ⟨y, hy⟩ : ∃ y, L[k]? = some y := ⟨_, List.getElem?_eq_getElem (by rw [← HN.out]; exact hlk)⟩
      obtain ⟨g, ea, _, hg, hc⟩ := HG.out.resolve_left (fun e => by rw [e] at hy; cases hy)
      have hty := HT.out y (List.mem_of_getElem? hy)
      have HY : Hid (L[k]? = some y) := hy
      have HF : Hid (∀ w', Below wr.heap.size wr w' → w'.cell? ⟨g, k, none⟩ = some (.slice y.a y.len y.cap) ∧ (convert 23 9 (.slice y.a y.len y.cap)).run Try.prog w' = .ok (.string (strOfNums y.b)) w' ∧ (convert 23 9 (.slice x.a x.len x.cap)).run Try.prog w' = .ok (.string (strOfNums x.b)) w') := fun w' hb => ⟨((bl_trans HB.out hb).cell (p := ⟨g, k, none⟩) hg).trans (hc k y hy), (hty.1.below (bl_trans HW.out (bl_trans HB.out hb))).str, (HX.out.1.below (bl_trans HW.out (bl_trans HB.out hb))).str⟩
      subst ea
      clear hc hy
      by_cases hyx : y.b = x.b
      · have HIN : Hid (InL x.b L) := (show x.b ∈ L.map SL.b by rw [← hyx]; exact List.mem_map_of_mem (f := SL.b) (List.mem_of_getElem? HY.out))
        rw [hyx] at HF
        clear hyx hty
        go_wp2_with fail
        refine wp_region_held_drew (S := fun w' => Below wr.heap.size wr w') (by kernel_rfl) ?_ (fun hHeld => ?_)
        · exact Below.drew (Below.refl _ _)
        refine takeq (i := 0) 12 (v := ?v1) rfl rfl (by kernel_rfl) (by kernel_rfl) (by kernel_rfl) (fun _ _ _ h => h) (Or.inl ⟨by rfl, ?y1⟩) hHeld ?r1
        case y1 => (intro w' hSw; skip; go_simp; (try with_reducible rfl))
        try simp only [Act.put, List.setIfInBounds_toArray, List.set_cons_zero, List.set_cons_succ]
        refine takeq (i := 1) 13 (v := ?v2) rfl rfl (by kernel_rfl) (by kernel_rfl) (by kernel_rfl) (fun _ _ _ h => h) (Or.inl ⟨by rfl, ?y2⟩) hHeld ?r2
        case y2 => (intro w' hSw; skip; go_simp; (try with_reducible rfl))
        try simp only [Act.put, List.setIfInBounds_toArray, List.set_cons_zero, List.set_cons_succ]
        refine takeq (i := 2) 14 (v := ?v3) rfl rfl (by kernel_rfl) (by kernel_rfl) (by kernel_rfl) (fun _ _ _ h => h) (Or.inl ⟨by rfl, ?y3⟩) hHeld ?r3
        case y3 => (intro w' hSw; skip; go_simp; (try with_reducible rfl))
        try simp only [Act.put, List.setIfInBounds_toArray, List.set_cons_zero, List.set_cons_succ]
        refine takeq (i := 3) 15 (v := ?v4) rfl rfl (by kernel_rfl) (by kernel_rfl) (by kernel_rfl) (fun _ _ _ h => h) (Or.inl ⟨by rfl, ?y4⟩) hHeld ?r4
        case y4 => (intro w' hSw; obtain ⟨q1, q2, q3⟩ := HF.out w' hSw; go_simp; (try with_reducible rfl))
        try simp only [Act.put, List.setIfInBounds_toArray, List.set_cons_zero, List.set_cons_succ]
        refine takeq (i := 4) 16 (v := ?v5) rfl rfl (by kernel_rfl) (by kernel_rfl) (by kernel_rfl) (fun _ _ _ h => h) (Or.inl ⟨by rfl, ?y5⟩) hHeld ?r5
        case y5 => (intro w' hSw; obtain ⟨q1, q2, q3⟩ := HF.out w' hSw; go_simp; (try with_reducible rfl))
        try simp only [Act.put, List.setIfInBounds_toArray, List.set_cons_zero, List.set_cons_succ]
        refine takeq (i := 5) 17 (v := ?v6) rfl rfl (by kernel_rfl) (by kernel_rfl) (by kernel_rfl) (fun _ _ _ h => h) (Or.inl ⟨by rfl, ?y6⟩) hHeld ?r6
        case y6 => (intro w' hSw; skip; go_simp; (try with_reducible rfl))
        try simp only [Act.put, List.setIfInBounds_toArray, List.set_cons_zero, List.set_cons_succ]
        refine takeq (i := 6) 18 (v := ?v7) rfl rfl (by kernel_rfl) (by kernel_rfl) (by kernel_rfl) (fun _ _ _ h => h) (Or.inl ⟨by rfl, ?y7⟩) hHeld ?r7
        case y7 => (intro w' hSw; obtain ⟨q1, q2, q3⟩ := HF.out w' hSw; go_simp; (try with_reducible rfl))
        try simp only [Act.put, List.setIfInBounds_toArray, List.set_cons_zero, List.set_cons_succ]
        refine takeq (i := 7) 19 (v := ?v8) rfl rfl (by kernel_rfl) (by kernel_rfl) (by kernel_rfl) (fun _ _ _ h => h) (Or.inl ⟨by rfl, ?y8⟩) hHeld ?r8
        case y8 => (intro w' hSw; skip; go_simp; (try with_reducible rfl))
        try simp only [Act.put, List.setIfInBounds_toArray, List.set_cons_zero, List.set_cons_succ]
        refine wpAnyH_done (by kernel_rfl) ?_ _
        have HBq : Hid (Below w.heap.size w wr.drew) := Below.drew HB.out
        clear hHeld HF
        go_wp2_with fail
        go_ret
        exact Tells.yes HIN.out HBq.out
      · have hs := str_ne hty.1.byt HX.out.1.byt hyx
        have hs0 := str_ne2 hty.1.byt HX.out.1.byt hyx
        have hs1 : ((strOfNums y.b).toList == (strOfNums x.b).toList) = false := beq_false_of_ne hs0
        have hs2 : decide (strOfNums y.b = strOfNums x.b) = false := decide_eq_false hs
        have HYX : Hid (y.b ≠ x.b) := hyx
        clear hyx hty
        go_wp2_with fail
        refine wp_region_held_drew (S := fun w' => Below wr.heap.size wr w') (by kernel_rfl) ?_ (fun hHeld => ?_)
        · exact Below.drew (Below.refl _ _)
        refine takeq (i := 0) 12 (v := ?v101) rfl rfl (by kernel_rfl) (by kernel_rfl) (by kernel_rfl) (fun _ _ _ h => h) (Or.inl ⟨by rfl, ?y101⟩) hHeld ?r101
        case y101 => (intro w' hSw; skip; go_simp; (try with_reducible rfl))
        try simp only [Act.put, List.setIfInBounds_toArray, List.set_cons_zero, List.set_cons_succ]
        refine takeq (i := 1) 13 (v := ?v102) rfl rfl (by kernel_rfl) (by kernel_rfl) (by kernel_rfl) (fun _ _ _ h => h) (Or.inl ⟨by rfl, ?y102⟩) hHeld ?r102
        case y102 => (intro w' hSw; skip; go_simp; (try with_reducible rfl))
        try simp only [Act.put, List.setIfInBounds_toArray, List.set_cons_zero, List.set_cons_succ]
        refine takeq (i := 2) 14 (v := ?v103) rfl rfl (by kernel_rfl) (by kernel_rfl) (by kernel_rfl) (fun _ _ _ h => h) (Or.inl ⟨by rfl, ?y103⟩) hHeld ?r103
        case y103 => (intro w' hSw; skip; go_simp; (try with_reducible rfl))
        try simp only [Act.put, List.setIfInBounds_toArray, List.set_cons_zero, List.set_cons_succ]
        refine takeq (i := 3) 15 (v := ?v104) rfl rfl (by kernel_rfl) (by kernel_rfl) (by kernel_rfl) (fun _ _ _ h => h) (Or.inl ⟨by rfl, ?y104⟩) hHeld ?r104
        case y104 => (intro w' hSw; obtain ⟨q1, q2, q3⟩ := HF.out w' hSw; go_simp; (try with_reducible rfl))
        try simp only [Act.put, List.setIfInBounds_toArray, List.set_cons_zero, List.set_cons_succ]
        refine takeq (i := 4) 16 (v := ?v105) rfl rfl (by kernel_rfl) (by kernel_rfl) (by kernel_rfl) (fun _ _ _ h => h) (Or.inl ⟨by rfl, ?y105⟩) hHeld ?r105
        case y105 => (intro w' hSw; obtain ⟨q1, q2, q3⟩ := HF.out w' hSw; go_simp; (try with_reducible rfl))
        try simp only [Act.put, List.setIfInBounds_toArray, List.set_cons_zero, List.set_cons_succ]
        refine takeq (i := 5) 17 (v := ?v106) rfl rfl (by kernel_rfl) (by kernel_rfl) (by kernel_rfl) (fun _ _ _ h => h) (Or.inl ⟨by rfl, ?y106⟩) hHeld ?r106
        case y106 => (intro w' hSw; skip; go_simp; (try with_reducible rfl))
        try simp only [Act.put, List.setIfInBounds_toArray, List.set_cons_zero, List.set_cons_succ]
        refine takeq (i := 6) 18 (v := ?v107) rfl rfl (by kernel_rfl) (by kernel_rfl) (by kernel_rfl) (fun _ _ _ h => h) (Or.inl ⟨by rfl, ?y107⟩) hHeld ?r107
        case y107 => (intro w' hSw; obtain ⟨q1, q2, q3⟩ := HF.out w' hSw; go_simp; (try with_reducible rfl))
        try simp only [Act.put, List.setIfInBounds_toArray, List.set_cons_zero, List.set_cons_succ]
        refine takeq (i := 7) 19 (v := ?v108) rfl rfl (by kernel_rfl) (by kernel_rfl) (by kernel_rfl) (fun _ _ _ h => h) (Or.inl ⟨by rfl, ?y108⟩) hHeld ?r108
        case y108 => (intro w' hSw; skip; go_simp; (try with_reducible rfl))
        try simp only [Act.put, List.setIfInBounds_toArray, List.set_cons_zero, List.set_cons_succ]
        refine wpAnyH_done (by kernel_rfl) ?_ _
        have HBq : Hid (Below w.heap.size w wr.drew) := Below.drew HB.out
        clear hHeld HF
        clear hs hs0 hs1 hs2
        generalize wr.drew = wq at *
        go_wp2_with fail
        go_roundw
        case rel =>
          refine ⟨k + 1, by omega, by go_num, fun j z hj hz => ?_, HBq⟩
          by_cases e : j = k
          · subst e
            rw [HY.out] at hz
            cases hz
            exact HYX.out
          · exact HNE.out j z (by omega) hz
        case measure => simp [intOf]; omega
    · obtain rfl : k = n := by omega
      have hlkz : ¬ (k : Int) < (k : Int) := by omega
      have HNI : Hid (¬ InL x.b L) := fun hm => by
        obtain ⟨y, hy, e⟩ := List.mem_map.1 hm
        obtain ⟨j, hj, rfl⟩ := List.mem_iff_getElem.1 hy
        exact HNE.out j _ (by rw [HN.out]; exact hj) (List.getElem?_eq_getElem hj) e
      go_wp2_with fail
      go_ret
      exact Tells.no HNI.out HB.out
theorem Try.infoB23 : (Try.prog.info? 23).map (fun i => (i.zero, i.size, i.bytes)) = some (some (.slice none 0 0), 1, 24) := by kernel_rfl
theorem appL {ops : Array Oper} {rest : List Oper} {o : Oper} {a : Act} {Q : Exit → Act → World → Prop} {w : World} (hgd : o.guard = none) (s x : Operand)
    (ho : o.op = .call { callee := .builtin .append, args := #[s, x], argTypes := #[73, 73] })
    (w0 : World) (B : Nat) (v : Value) (L : List SL) (hs : a.eval s = v) (HO : Hid (VL w0 w B v L)) (y : SL) (hy : BsF 0 w0 y)
    (ad : Addr) (c : Nat) (hx : a.eval x = .slice (some ad) 1 c) (HN : Hid (∀ j u, ([y.v] : List Value)[j]? = some u → w.cell? (ad.add j) = some u)) (hle : L.length ≤ 1048576) (hB : B ≤ w.heap.size)
    (h : ∀ g cap w', Hid (VL w0 w' B (.slice (some ⟨g, 0, none⟩) (L.length + 1) cap) (L ++ [y])) → Hid (Kp v w (.slice (some ⟨g, 0, none⟩) (L.length + 1) cap) w') → wpList Try.prog ops Q rest (a.put o.dst (.slice (some ⟨g, 0, none⟩) (L.length + 1) cap)) w') :
    wpList Try.prog ops Q (o :: rest) a w := by
  obtain ⟨i0, hi0, hzz⟩ := Option.map_eq_some_iff.1 Try.infoB23
  simp only [Prod.mk.injEq] at hzz
  obtain ⟨hi2, hi1, hi3⟩ := hzz
  refine wpList_append_lies _ hgd s x 73 ho B 23 i0 (.slice none 0 0) 1 24 Try.underlying73 hi0 hi2 hi1 hi3 rfl (by omega) v L.length (L.map SL.v) hs HO.out.own ad 1 c [y.v] hx rfl HN.out (fun u hu => by simp only [List.mem_cons, List.not_mem_nil, or_false] at hu; rw [hu]; rfl) (by omega) (by unfold maxLen; omega) (by omega) hB _ rfl ?_
  intro g cap w' hown hgr hat hlt
  refine h g cap w' ⟨?_, fun g' hg' => ?_, fun z hz => ?_⟩ ⟨hgr.os, hgr.tape, hgr.output, hgr.size, fun b hb hn => hgr.block b hb (fun e => hn e.symm), fun g' hg' => ?_⟩
  · rw [List.map_append, List.length_append]
    exact hown
  · have : g = g' := by simpa [Value.ownBlock] using hg'
    subst this
    rcases hown.2 with ⟨hv, _⟩ | ⟨g0, c0, cur, hv, hb, _⟩
    · cases hv
    · cases hv; exact ⟨hb, hlt⟩
  · rcases List.mem_append.1 hz with hz | hz
    · exact HO.out.txt z hz
    · rw [List.mem_singleton.1 hz]
      exact hy
  · have : g = g' := by simpa [Value.ownBlock] using hg'
    subst this
    rcases hat with e | e
    · exact .inl e
    · exact .inr (by rw [e]; exact Nat.le_refl _)
set_option maxHeartbeats 2000000 in
theorem l4add_any (v : Value) (L : List SL) (x : SL) (B : Nat) (w0 w : World) (h : VL w0 w B v L) (hw : Below w0.heap.size w0 w) (hx : BsF 0 w0 x) (hn : L.length ≤ 1000000) (hB : B ≤ w.heap.size) :
    Calls Try.prog 51 #[v, .slice x.a x.len x.cap] w (AddAns w0 B v (addV (L.map SL.b) x.b) w) := by
  have HLX : Hid (x.b = [] ↔ x.len = 0) := nil_len hx.1.1
  have HV : Hid (VL w0 w B v L) := h
  have HX : Hid (BsF 0 w0 x) := hx
  have HAS := l4has_any v L x B w0 w h hw hx (by omega)
  obtain ⟨a, cap, rfl, _⟩ := h.form
  obtain ⟨n, hnn⟩ : ∃ n, n = L.length := ⟨_, rfl⟩
  have HN : Hid (n = L.length) := hnn
  rw [← hnn] at HAS HV ⊢
  clear h hw hx hnn
  by_cases h0 : x.len = 0
  · have HR : Hid (addV (L.map SL.b) x.b = L.map SL.b) := (show addV _ _ = _ by unfold addV; rw [if_pos (.inl (HLX.out.2 h0))])
    go_enter Try.func51, Try.ntmps51
    go_wp2_with fail
    go_ret
    exact ⟨_, L, rfl, HV.out, HR.out.symm, Kp.of_below (Below.refl _ _)⟩
  have h0b : ((x.len : Int) == 0) = false := by simp; omega
  have H0 : Hid (¬ x.b = []) := fun e => h0 (HLX.out.1 e)
  clear h0
  go_enter Try.func51, Try.ntmps51
  go_wp2_with fail
  refine HAS.mono ?_
  rintro e w1 ⟨q, rfl, hq, hb1⟩
  have HB1 : Hid (Below w.heap.size w w1) := hb1
  clear HAS hb1
  cases q with
  | true =>
    have HR : Hid (addV (L.map SL.b) x.b = L.map SL.b) := (show addV _ _ = _ by unfold addV; rw [if_pos (.inr (hq.1 rfl))])
    clear hq
    go_wp2_with fail
    go_ret
    exact ⟨_, L, rfl, HV.out.below HB1.out, HR.out.symm, Kp.of_below HB1.out⟩
  | false =>
    have HR : Hid (addV (L.map SL.b) x.b = (L ++ [x]).map SL.b) := (show addV _ _ = _ by
      unfold addV
      rw [if_neg (fun hh => by
        rcases hh with hh | hh
        · exact H0.out hh
        · have := hq.2 hh
          cases this), List.map_append]
      rfl)
    clear hq
    have HO1 : Hid (∀ o, VL w0 (w1.alloc o) B (.slice a n cap) L) := fun o => (HV.out.below HB1.out).below (bl_a o)
    have HNW : Hid (∀ j u, ([x.v] : List Value)[j]? = some u → (w1.alloc (.cells #[.slice x.a x.len x.cap] 23)).cell? ((⟨w1.heap.size, 0, none⟩ : Addr).add j) = some u) := by
      intro j u hu
      have h1 : (w1.alloc (.cells #[.slice x.a x.len x.cap] 23)).heap[w1.heap.size]? = some (.cells #[.slice x.a x.len x.cap] 23) := by
        show (w1.heap.push _)[w1.heap.size]? = _
        rw [Array.getElem?_push]
        simp
      exact World.news_of_block h1 j u hu
    have hle1 : L.length ≤ 1048576 := by have := HN.out; omega
    have hB1 : ∀ o, B ≤ (w1.alloc o).heap.size := fun o => Nat.le_trans hB (Nat.le_trans HB1.out.size (bl_a (w := w1) o).size)
    go_wp2_with (refine appL rfl (.tmp 14) (.tmp 16) rfl w0 B (.slice a n cap) L rfl (HO1.out _) x HX.out ⟨w1.heap.size, 0, none⟩ 1 rfl HNW hle1 (hB1 _) ?_; intro g9 c9 w9 HO9 HK9)
    go_ret
    exact ⟨_, _, rfl, HO9.out, HR.out.symm, Kp.pre (bl_trans HB1.out (bl_a _)) HK9.out⟩
end Go.Proofs.Ytpgbhkkdbkecoaa
