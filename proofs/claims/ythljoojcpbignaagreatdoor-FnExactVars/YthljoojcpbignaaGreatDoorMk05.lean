import Derived.Test.YthljoojcpbignaaGreatDoorMk04
import Derived.Deep.Upon
import Derived.Deep.AppendSrc
import Derived.Laws.IdiomCopy
namespace Go.Proofs.YthljoojcpbignaaGreatDoor
open Go.RowKit Go.Deep
set_option maxHeartbeats 40000000
set_option maxRecDepth 100000
def one : ET := .mk ⟨1, 0, ⟨none, 0, 0, []⟩, ⟨⟨3, none, 0, 0, 1, 0⟩, []⟩, none, 0, 0⟩ (fun _ => .nil)
theorem bs_nil (w : World) : BsF 0 w ⟨none, 0, 0, []⟩ := ⟨⟨rfl, nZ, fun i => by simp, .inl rfl⟩, .inl rfl⟩
theorem tb_nil {l : List TB} : l = [] ↔ l.length = 0 := List.length_eq_zero_iff.symm
def SL.v (x : SL) : Value := .slice x.a x.len x.cap
structure VL (w0 w : World) (B : Nat) (v : Value) (L : List SL) : Prop where
 own : w.ownsRow B 42 1 v L.length (L.map SL.v)
 lo : ∀ g, v.ownBlock = some g → B ≤ g ∧ g < w.heap.size
 txt : ∀ x ∈ L, BsF 0 w0 x
theorem VL.nil (w0 w : World) (B : Nat) : VL w0 w B (.slice none 0 0) [] := ⟨World.ownsRow_nil _ _ _ _, fun g h => (by cases h), fun x hx => (by cases hx)⟩
theorem VL.keep {w0 w w' : World} {B : Nat} {v : Value} {L : List SL} (h : VL w0 w B v L) (hs : w.heap.size ≤ w'.heap.size) (hb : ∀ g, v.ownBlock = some g → w'.heap[g]? = w.heap[g]?) : VL w0 w' B v L := by
 obtain ⟨⟨h1, h2⟩, hl, ht⟩ := h
 refine ⟨⟨h1, ?_⟩, fun c hc => ⟨(hl c hc).1, Nat.lt_of_lt_of_le (hl c hc).2 hs⟩, ht⟩
 rcases h2 with h2 | ⟨g', cap', cur, hv, hB, hh, r⟩
 · exact .inl h2
 refine .inr ⟨g', cap', cur, hv, hB, ?_, r⟩
 rw [hb g' (by rw [hv]; rfl)]
 exact hh
theorem VL.below {w0 w w' : World} {B : Nat} {v : Value} {L : List SL} (h : VL w0 w B v L) (hb : Bl w w') : VL w0 w' B v L := h.keep hb.size fun g hg => hb.block g (h.lo g hg).2
theorem VL.form {w0 w : World} {B : Nat} {v : Value} {L : List SL} (h : VL w0 w B v L) : ∃ a cap, v = .slice a L.length cap ∧ (L = [] ∨ ∃ g, a = some ⟨g, 0, none⟩ ∧ B ≤ g ∧ g < w.heap.size ∧ ∀ i x, L[i]? = some x → w.cell? ⟨g, i, none⟩ = some (.slice x.a x.len x.cap)) := by
 rcases h.own.2 with ⟨hv, h0⟩ | ⟨g, cap, cur, hv, hB, hh, hle, _, hsz, htk⟩
 · have := List.eq_nil_of_length_eq_zero h0
   subst this
   exact ⟨none, 0, hv, .inl rfl⟩
 refine ⟨some ⟨g, 0, none⟩, cap, hv, .inr ⟨g, rfl, hB, (h.lo g (by rw [hv]; rfl)).2, fun i x hx => ?_⟩⟩
 have hi := (List.getElem?_eq_some_iff.1 hx).1
 have hu : (L.map SL.v)[i]? = some (.slice x.a x.len x.cap) := by rw [List.getElem?_map, hx]; rfl
 rw [← htk, List.getElem?_take, if_pos (by omega)] at hu
 simp only [World.cell?, hh]
 simpa using hu
def InL (b : List Int) (L : List SL) : Prop := b ∈ L.map SL.b
def addV (l : List (List Int)) (v : List Int) : List (List Int) := if v = [] ∨ v ∈ l then l else l ++ [v]
theorem addV_len (l : List (List Int)) (v : List Int) : (addV l v).length ≤ l.length + 1 := by
 unfold addV
 split <;> simp
structure Kp (v : Value) (w : World) (v' : Value) (w' : World) : Prop where
 os : w'.os = w.os
 tape : w'.tape = w.tape
 output : w'.output = w.output
 size : w.heap.size ≤ w'.heap.size
 block : ∀ b, b < w.heap.size → v.ownBlock ≠ some b → w'.heap[b]? = w.heap[b]?
 blk : ∀ g, v'.ownBlock = some g → v.ownBlock = some g ∨ w.heap.size ≤ g
theorem Kp.of_below {v : Value} {w w' : World} (h : Bl w w') : Kp v w v w' := ⟨h.os, h.tape, h.output, h.size, fun b hb _ => h.block b hb, fun _ hg => .inl hg⟩
theorem Kp.trans {v v' v'' : Value} {w w' w'' : World} (h : Kp v w v' w') (k : Kp v' w' v'' w'') : Kp v w v'' w'' :=
 ⟨k.os.trans h.os, k.tape.trans h.tape, k.output.trans h.output, Nat.le_trans h.size k.size, fun b hb hn => (k.block b (Nat.lt_of_lt_of_le hb h.size) (fun e => by
  rcases h.blk b e with e' | e'
  · exact hn e'
  · omega)).trans (h.block b hb hn), fun g hg => by
  rcases k.blk g hg with e | e
  · exact h.blk g e
  exact .inr (Nat.le_trans h.size e)⟩
theorem Kp.box {v v' : Value} {w w' : World} {b : Nat} {L : List Value} (h : Kp v w v' w') (hx : Box w b L) (hn : v.ownBlock ≠ some b) : Box w' b L := ⟨Nat.lt_of_lt_of_le hx.1 h.size, fun c u hu => (World.cell?_of_block (w := w) (a := ⟨b, c, none⟩) (h.block b hx.1 hn)).trans (hx.2 c u hu)⟩
theorem Kp.low {v v' : Value} {w w' : World} {B : Nat} (h : Kp v w v' w') (hv : ∀ g, v.ownBlock = some g → B ≤ g) (hB : B ≤ w.heap.size) : Below B w w' := ⟨h.os, h.tape, h.output, h.size, fun b hb => h.block b (by omega) (fun e => by have := hv b e; omega)⟩
theorem Kp.pre {v v' : Value} {w w1 w' : World} (h : Bl w w1) (k : Kp v w1 v' w') : Kp v w v' w' := (Kp.of_below h).trans k
def AddAns (w0 : World) (B : Nat) (v : Value) (R : List (List Int)) (w : World) (e : Ending) (w' : World) : Prop := ∃ v' L', e = .returned v' ∧ VL w0 w' B v' L' ∧ L'.map SL.b = R ∧ Kp v w v' w'
theorem str_ne {a b : List Int} (ha : Byt a) (hb : Byt b) (h : a ≠ b) : strOfNums a ≠ strOfNums b := fun e => h (by rw [← numsOf_nums ha, ← numsOf_nums hb, e])
theorem str_ne2 {a b : List Int} (ha : Byt a) (hb : Byt b) (h : a ≠ b) : (strOfNums a).toList ≠ (strOfNums b).toList := fun e => h (by
 rw [Lib.strOfNums_toList, Lib.strOfNums_toList] at e
 rw [← numsOf_nums ha, ← numsOf_nums hb]
 show (a.map fun n => UInt8.ofNat n.toNat).map _ = (b.map fun n => UInt8.ofNat n.toNat).map _
 exact congrArg _ e)
theorem l4has_any (v : Value) (L : List SL) (x : SL) (B : Nat) (w0 w : World) (h : VL w0 w B v L) (hw : Bl w0 w) (hx : BsF 0 w0 x) (hn : L.length ≤ 1048576) :
 Calls Tryz.prog 84 #[v, .slice x.a x.len x.cap] w (Tells (InL x.b L) w) := by
 obtain ⟨a, cap, rfl, hf⟩ := h.form
 obtain ⟨n, hnn⟩ : ∃ n, n = L.length := ⟨_, rfl⟩
 have HN := iH hnn
 have HT := iH h.txt
 have HX := iH hx
 have HW := iH hw
 have HG := iH hf
 rw [← hnn] at hn ⊢
 clear h hw hx hf hnn
 go_in
 go_wp2_with fail
 go_loopw [5] (fun i wr => ∃ k : Nat, k ≤ n ∧ i = .int .i64 k ∧ Hd (∀ j y, j < k → L[j]? = some y → y.b ≠ x.b) ∧ Hd (Bl w wr)) (fun i _ => n - (intOf i).toNat)
 case atStart => exact ⟨0, nZ, rfl, fun j y hj => absurd hj nN, Below.refl _ _⟩
 obtain ⟨k, hk, rfl, HNE, HB⟩ := hrel
 by_cases hlk : k < n
 · have hlkz : (k : Int) < (n : Int) := by omega
   obtain ⟨y, hy⟩ : ∃ y, L[k]? = some y := ⟨_, List.getElem?_eq_getElem (by rw [← HN.o]; exact hlk)⟩
   obtain ⟨g, ea, _, hg, hc⟩ := HG.o.resolve_left (fun e => by rw [e] at hy; cases hy)
   have hty := HT.o y (List.mem_of_getElem? hy)
   have HY := iH hy
   have HF : Hd (∀ w', Bl wr w' → w'.cell? ⟨g, k, none⟩ = some (.slice y.a y.len y.cap) ∧ (convert 42 9 (.slice y.a y.len y.cap)).run Tryz.prog w' = .ok (.string (strOfNums y.b)) w' ∧ (convert 42 9 (.slice x.a x.len x.cap)).run Tryz.prog w' = .ok (.string (strOfNums x.b)) w') := fun w' hb => ⟨((bl_trans HB.o hb).cell (p := ⟨g, k, none⟩) hg).trans (hc k y hy), (hty.1.below (bl_trans HW.o (bl_trans HB.o hb))).str, (HX.o.1.below (bl_trans HW.o (bl_trans HB.o hb))).str⟩
   subst ea
   clear hc hy
   by_cases hyx : y.b = x.b
   · have HIN : Hd (InL x.b L) := (show x.b ∈ L.map SL.b by rw [← hyx]; exact List.mem_map_of_mem (f := SL.b) (List.mem_of_getElem? HY.o))
     rw [hyx] at HF
     clear hyx hty
     go_wp2_with fail
     refine whd (fun w' => Bl wr w') ?_ fun hHeld => ?_
     · exact Below.drew brf
     refine tkB 0 12 ?_
     refine tkB 1 13 ?_
     refine tkB 2 14 ?_
     refine tkA 3 15 (v := ?v4) ?y4 ?_
     case y4 => (intro w' hSw; obtain ⟨q1, q2, q3⟩ := HF.o w' hSw; go_simp; (try with_reducible rfl))
     refine tkA 4 16 (v := ?v5) ?y5 ?_
     case y5 => (intro w' hSw; obtain ⟨q1, q2, q3⟩ := HF.o w' hSw; go_simp; (try with_reducible rfl))
     refine tkB 5 17 ?_
     refine tkA 6 18 (v := ?v7) ?y7 ?_
     case y7 => (intro w' hSw; obtain ⟨q1, q2, q3⟩ := HF.o w' hSw; go_simp; (try with_reducible rfl))
     refine tkB 7 19 ?_
     refine wpAnyH_done (by kernel_rfl) ?_ _
     have HBq := iH (Below.drew HB.o)
     clear hHeld HF
     go_wp2
     go_ret
     exact Tells.yes HIN.o HBq.o
   have hs := str_ne hty.1.byt HX.o.1.byt hyx
   have hs0 := str_ne2 hty.1.byt HX.o.1.byt hyx
   have hs1 := beq_false_of_ne hs0
   have hs2 := decide_eq_false hs
   have HYX := iH hyx
   clear hyx hty
   go_wp2_with fail
   refine whd (fun w' => Bl wr w') ?_ fun hHeld => ?_
   · exact Below.drew brf
   refine tkB 0 12 ?_
   refine tkB 1 13 ?_
   refine tkB 2 14 ?_
   refine tkA 3 15 (v := ?v104) ?y104 ?_
   case y104 => (intro w' hSw; obtain ⟨q1, q2, q3⟩ := HF.o w' hSw; go_simp; (try with_reducible rfl))
   refine tkA 4 16 (v := ?v105) ?y105 ?_
   case y105 => (intro w' hSw; obtain ⟨q1, q2, q3⟩ := HF.o w' hSw; go_simp; (try with_reducible rfl))
   refine tkB 5 17 ?_
   refine tkA 6 18 (v := ?v107) ?y107 ?_
   case y107 => (intro w' hSw; obtain ⟨q1, q2, q3⟩ := HF.o w' hSw; go_simp; (try with_reducible rfl))
   refine tkB 7 19 ?_
   refine wpAnyH_done (by kernel_rfl) ?_ _
   have HBq := iH (Below.drew HB.o)
   clear hHeld HF
   clear hs hs0 hs1 hs2
   generalize wr.drew = wq at *
   go_wp2
   go_roundw
   case rel =>
    refine ⟨k + 1, by omega, by go_num, fun j z hj hz => ?_, HBq⟩
    by_cases e : j = k
    · subst e
      rw [HY.o] at hz
      cases hz
      exact HYX.o
    exact HNE.o j z (by omega) hz
   case measure => simp [intOf]; omega
 obtain rfl : k = n := by omega
 have hlkz : ¬ (k : Int) < (k : Int) := by omega
 have HNI : Hd (¬ InL x.b L) := fun hm => by
  obtain ⟨y, hy, e⟩ := List.mem_map.1 hm
  obtain ⟨j, hj, rfl⟩ := List.mem_iff_getElem.1 hy
  exact HNE.o j _ (by rw [HN.o]; exact hj) (List.getElem?_eq_getElem hj) e
 go_wp2
 go_ret
 exact Tells.no HNI.o HB.o
theorem Tryz.infoB42 : (Tryz.prog.info? 42).map (fun i => (i.zero, i.size, i.bytes)) = some (some (.slice none 0 0), 1, 24) := by kernel_rfl
theorem appL {ops : Array Oper} {rest : List Oper} {o : Oper} {a : Act} {Q : Exit → Act → World → Prop} {w : World} (hgd : o.guard = none) (s x : Operand)
 (ho : o.op = .call { callee := .builtin .append, args := #[s, x], argTypes := #[24, 24] })
 (w0 : World) (B : Nat) (v : Value) (L : List SL) (hs : a.eval s = v) (HO : Hd (VL w0 w B v L)) (y : SL) (hy : BsF 0 w0 y)
 (ad : Addr) (c : Nat) (hx : a.eval x = .slice (some ad) 1 c) (HN : Hd (∀ j u, ([y.v] : List Value)[j]? = some u → w.cell? (ad.add j) = some u)) (hle : L.length ≤ 1048576) (hB : B ≤ w.heap.size)
 (h : ∀ g cap w', Hd (VL w0 w' B (.slice (some ⟨g, 0, none⟩) (L.length + 1) cap) (L ++ [y])) → Hd (Kp v w (.slice (some ⟨g, 0, none⟩) (L.length + 1) cap) w') → wpList Tryz.prog ops Q rest (a.put o.dst (.slice (some ⟨g, 0, none⟩) (L.length + 1) cap)) w') :
 wpList Tryz.prog ops Q (o :: rest) a w := by
 obtain ⟨i0, hi0, hzz⟩ := Option.map_eq_some_iff.1 Tryz.infoB42
 simp only [Prod.mk.injEq] at hzz
 obtain ⟨hi2, hi1, hi3⟩ := hzz
 refine wpList_append_lies _ hgd s x 24 ho B 42 i0 (.slice none 0 0) 1 24 Tryz.underlying24 hi0 hi2 hi1 hi3 rfl (by omega) v L.length (L.map SL.v) hs HO.o.own ad 1 c [y.v] hx rfl HN.o (fun u hu => by simp only [List.mem_cons, List.not_mem_nil, or_false] at hu; rw [hu]; rfl) (by omega) (by unfold maxLen; omega) (by omega) hB _ rfl ?_
 intro g cap w' hown hgr hat hlt
 refine h g cap w' ⟨?_, fun g' hg' => ?_, fun z hz => ?_⟩ ⟨hgr.os, hgr.tape, hgr.output, hgr.size, fun b hb hn => hgr.block b hb (fun e => hn e.symm), fun g' hg' => ?_⟩
 · rw [List.map_append, List.length_append]
   exact hown
 · have : g = g' := by simpa [Value.ownBlock] using hg'
   subst this
   rcases hown.2 with ⟨hv, _⟩ | ⟨g0, c0, cur, hv, hb, _⟩
   · cases hv
   cases hv; exact ⟨hb, hlt⟩
 · rcases List.mem_append.1 hz with hz | hz
   · exact HO.o.txt z hz
   rw [List.mem_singleton.1 hz]
   exact hy
 have : g = g' := by simpa [Value.ownBlock] using hg'
 subst this
 rcases hat with e | e
 · exact .inl e
 exact .inr (by rw [e]; exact nR)
theorem l4add_any (v : Value) (L : List SL) (x : SL) (B : Nat) (w0 w : World) (h : VL w0 w B v L) (hw : Bl w0 w) (hx : BsF 0 w0 x) (hn : L.length ≤ 1000000) (hB : B ≤ w.heap.size) :
 Calls Tryz.prog 51 #[v, .slice x.a x.len x.cap] w (AddAns w0 B v (addV (L.map SL.b) x.b) w) := by
 have HLX := iH (nil_len hx.1.1)
 have HV := iH h
 have HX := iH hx
 have HAS := l4has_any v L x B w0 w h hw hx (by omega)
 obtain ⟨a, cap, rfl, _⟩ := h.form
 obtain ⟨n, hnn⟩ : ∃ n, n = L.length := ⟨_, rfl⟩
 have HN := iH hnn
 rw [← hnn] at HAS HV ⊢
 clear h hw hx hnn
 by_cases h0 : x.len = 0
 · have HR : Hd (addV (L.map SL.b) x.b = L.map SL.b) := (show addV _ _ = _ by unfold addV; rw [if_pos (.inl (HLX.o.2 h0))])
   go_in
   go_wp2
   go_ret
   exact ⟨_, L, rfl, HV.o, HR.o.symm, Kp.of_below brf⟩
 have h0b : ((x.len : Int) == 0) = false := by simp; omega
 have H0 : Hd (¬ x.b = []) := fun e => h0 (HLX.o.1 e)
 clear h0
 go_in
 go_wp2_with fail
 refine HAS.mono ?_
 rintro e w1 ⟨q, rfl, hq, hb1⟩
 have HB1 := iH hb1
 clear HAS hb1
 cases q with
 | true =>
  have HR := iH (show addV _ _ = _ by unfold addV; rw [if_pos (.inr (hq.1 rfl))])
  clear hq
  go_wp2
  go_ret
  exact ⟨_, L, rfl, HV.o.below HB1.o, HR.o.symm, Kp.of_below HB1.o⟩
 | false =>
  have HR : Hd (addV (L.map SL.b) x.b = (L ++ [x]).map SL.b) := (show addV _ _ = _ by
   unfold addV
   rw [if_neg (fun hh => by
    rcases hh with hh | hh
    · exact H0.o hh
    have := hq.2 hh
    cases this), List.map_append]
   rfl)
  clear hq
  have HO1 := iH (fun o => (HV.o.below HB1.o).below (bl_a o))
  have HNW : Hd (∀ j u, ([x.v] : List Value)[j]? = some u → (w1.alloc (.cells #[.slice x.a x.len x.cap] 42)).cell? ((⟨w1.heap.size, 0, none⟩ : Addr).add j) = some u) := by
   intro j u hu
   have h1 : (w1.alloc (.cells #[.slice x.a x.len x.cap] 42)).heap[w1.heap.size]? = some (.cells #[.slice x.a x.len x.cap] 42) := by
    show (w1.heap.push _)[w1.heap.size]? = _
    rw [Array.getElem?_push]
    simp
   exact World.news_of_block h1 j u hu
  have hle1 : L.length ≤ 1048576 := by have := HN.o; omega
  have hB1 := fun o => Nat.le_trans hB (Nat.le_trans HB1.o.size (bl_a (w := w1) o).size)
  go_wp2_with (refine appL rfl (.tmp 14) (.tmp 16) rfl w0 B (.slice a n cap) L rfl (HO1.o _) x HX.o ⟨w1.heap.size, 0, none⟩ 1 rfl HNW hle1 (hB1 _) ?_; intro g9 c9 w9 HO9 HK9)
  go_ret
  exact ⟨_, _, rfl, HO9.o, HR.o.symm, Kp.pre (bl_trans HB1.o (bl_a _)) HK9.o⟩
theorem below_setCells {w0 : World} {B b : Nat} (hB : B ≤ b) : ∀ (vs : List Value) (o : Nat) (w : World), Below B w0 w → Below B w0 (w.setCells b o vs)
 | [], _, _, h => h
 | v :: r, o, w, h => by
  rw [World.setCells]
  exact below_setCells hB r (o + 1) _ (h.setCell (p := ⟨b, o, none⟩) hB v)
theorem bs_of_cells {w : World} {g n : Nat} {bs : List Int} (hl : bs.length = n) (hn : n ≤ 1048576) (hb : Byt bs) (hg : g < w.heap.size) (hc : ∀ i, i < n → w.cell? ⟨g, i, none⟩ = some (.int .u8 (bs[i]?.getD 0))) : Bs w (some ⟨g, 0, none⟩) n bs :=
 ⟨hl, hn, fun i => hb.get i, .inr ⟨g, 0, rfl, hg, fun i hi => by rw [Nat.zero_add]; exact hc i hi⟩⟩
def digits : Nat → Int → Int → Int → Option Int
 | 0, n, _, _ => some n
 | k + 1, n, r, y => if 1000000000000000 < n ∨ 461168601842738790 < r then none else digits k (n * 10 + r * 10 / y) (r * 10 % y) y
def digF : Nat → Nat → List Int
 | 0, n => [48 + (n : Int) % 10]
 | f + 1, n => if n < 10 then [48 + (n : Int)] else digF f (n / 10) ++ [48 + (n : Int) % 10]
def digitsL (n : Nat) : List Int := digF n n
theorem digF_small {n : Nat} (h : n < 10) : ∀ f, digF f n = [48 + (n : Int)]
 | 0 => by
  have : (n : Int) % 10 = n := by omega
  simp [digF, this]
 | f + 1 => by simp [digF, h]
theorem digF_like : ∀ (f g n : Nat), n ≤ f → n ≤ g → digF f n = digF g n
 | 0, g, n, h, _ => by rw [digF_small (by omega), digF_small (by omega)]
 | f + 1, 0, n, _, h => by rw [digF_small (by omega), digF_small (by omega)]
 | f + 1, g + 1, n, h1, h2 => by
  by_cases h : n < 10
  · rw [digF_small h, digF_small h]
  simp only [digF, h, if_false]
  rw [digF_like f g (n / 10) (by omega) (by omega)]
theorem digitsL_small {n : Nat} (h : n < 10) : digitsL n = [48 + (n : Int)] := digF_small h n
theorem digitsL_step {n : Nat} (h : ¬ n < 10) : digitsL n = digitsL (n / 10) ++ [48 + (n : Int) % 10] := by
 obtain ⟨m, rfl⟩ : ∃ m, n = m + 1 := ⟨n - 1, by omega⟩
 unfold digitsL
 rw [digF_like ((m + 1) / 10) m ((m + 1) / 10) (by omega) (by omega)]
 simp only [digF, h, if_false]
theorem digitsL_len (k : Nat) : ∀ n : Nat, n < 10 ^ (k + 1) → (digitsL n).length ≤ k + 1 := by
 induction k with
 | zero => intro n h; rw [digitsL_small (by omega)]; simp
 | succ k ih =>
  intro n h
  by_cases h0 : n < 10
  · rw [digitsL_small h0]; simp
  rw [digitsL_step h0]
  have := ih (n / 10) (by rw [Nat.pow_succ] at h; omega)
  simp
  omega
def Row8 (w : World) (B g n cap : Nat) (bs : List Int) : Prop := w.ownsRow B 5 1 (.slice (some ⟨g, 0, none⟩) n cap) n (bs.map (Value.int .u8)) ∧ g < w.heap.size
theorem Row8.new (w : World) (x : Int) : Row8 (w.alloc (.cells #[.int .u8 x] 5)) w.heap.size w.heap.size 1 1 [x] := by
 refine ⟨⟨rfl, .inr ⟨w.heap.size, 1, #[.int .u8 x], rfl, nR, by simp [World.alloc, -World.alloc_eq], by omega, by unfold maxLen; omega, rfl, rfl⟩⟩, by simp⟩
theorem Row8.below {w w' : World} {B g n cap : Nat} {bs : List Int} (h : Row8 w B g n cap bs) (hb : Bl w w') : Row8 w' B g n cap bs := by
 obtain ⟨⟨h1, h2⟩, hl⟩ := h
 refine ⟨⟨h1, ?_⟩, Nat.lt_of_lt_of_le hl hb.size⟩
 rcases h2 with ⟨h2, _⟩ | ⟨g', cap', cur, hv, hB, hh, r⟩
 · cases h2
 refine .inr ⟨g', cap', cur, hv, hB, ?_, r⟩
 cases hv
 rw [hb.block g hl]
 exact hh
theorem Row8.mono {w : World} {B B' g n cap : Nat} {bs : List Int} (h : Row8 w B g n cap bs) (hB : B' ≤ B) : Row8 w B' g n cap bs := by
 obtain ⟨⟨h1, h2⟩, hl⟩ := h
 refine ⟨⟨h1, ?_⟩, hl⟩
 rcases h2 with ⟨h2, _⟩ | ⟨g', cap', cur, hv, hb, r⟩
 · cases h2
 exact .inr ⟨g', cap', cur, hv, Nat.le_trans hB hb, r⟩
theorem grown_below {w w' : World} {B g : Nat} (h : w.grownBy w' (some g)) (hB : B ≤ g) (hw : B ≤ w.heap.size) : Below B w w' :=
 ⟨h.os, h.tape, h.output, h.size, fun b hb => h.block b (by omega) (by intro e; cases e; omega)⟩
def DigRes (w : World) (bs : List Int) (e : Ending) (w' : World) : Prop := ∃ g cap, e = .returned (.slice (some ⟨g, 0, none⟩) bs.length cap) ∧ Row8 w' w.heap.size g bs.length cap bs ∧ Below w.heap.size w w'
theorem l1digits_any : ∀ (n : Nat) (w : World), n ≤ 9223372036854775807 → Calls Tryz.prog 69 #[.int .i64 n] w fun e w' => DigRes w (digitsL n) e w' := by
 intro n
 induction n using Nat.strongRecOn with
 | ind n ih =>
  intro w hn
  obtain ⟨i0, hi0, hzz⟩ := Option.map_eq_some_iff.1 Tryz.info5
  simp only [Prod.mk.injEq] at hzz
  obtain ⟨hi2, hi1, hi3⟩ := hzz
  by_cases h : n < 10
  · rw [digitsL_small h]
    have hw : IntKind.u8.wrap (48 + (n : Int)) = 48 + (n : Int) := by rw [IntKind.wrap_u8]; omega
    clear ih hi0 hi1 hi2 hi3
    go_in
    go_wp2
    go_ret
    exact ⟨w.heap.size, 1, rfl, Row8.new w _, bl_a _⟩
  have IH : Calls Tryz.prog 69 #[.int .i64 ((n : Int) / 10)] w fun e w' => DigRes w (digitsL (n / 10)) e w' := by
   have := ih (n / 10) (by omega) w (by omega)
   rwa [Int.natCast_ediv] at this
  clear ih
  rw [digitsL_step h]
  have hw : IntKind.u8.wrap (48 + ((n : Int) % 10)) = 48 + (n : Int) % 10 := by rw [IntKind.wrap_u8]; omega
  have hL := digitsL_len 19 (n / 10) (by omega)
  generalize digitsL (n / 10) = ds at *
  go_in
  go_wp2_with fail
  refine IH.mono ?_
  rintro e w1 ⟨g, cap, rfl, hr, hb⟩
  have hr2 := hr.below (bl_a (.cells #[.int .u8 (48 + (n : Int) % 10)] 5))
  have hb2 := bl_trans hb (bl_a (.cells #[.int .u8 (48 + (n : Int) % 10)] 5))
  have hnw : ∀ j u, [Value.int .u8 (48 + (n : Int) % 10)][j]? = some u → (w1.alloc (.cells #[.int .u8 (48 + (n : Int) % 10)] 5)).cell? ((⟨w1.heap.size, 0, none⟩ : Addr).add j) = some u := by
   intro j u hj
   have hj0 : j = 0 := by
    cases j with
    | zero => rfl
    | succ j => simp at hj
   subst hj0
   simp at hj
   subst hj
   simp [Addr.add, go_sem]
  have HO := iH hr2
  have HN := iH hnw
  have hgB : w.heap.size ≤ g := by
   rcases hr.1.2 with ⟨h, _⟩ | ⟨g', cap', cur, hv, hB, _⟩
   · cases h
   cases hv; exact hB
  have hs := hb2.size
  clear hr hr2 hnw hb IH
  go_wp2_with (refine wpList_append_lies _ rfl (.tmp 11) (.tmp 16) 42 rfl w.heap.size 5 i0 (.int .u8 0) 1 1 Tryz.underlying42 hi0 hi2 hi1 hi3 rfl (by omega) (.slice (some ⟨g, 0, none⟩) ds.length cap) ds.length (ds.map (Value.int .u8)) rfl HO.o.1 ⟨w1.heap.size, 0, none⟩ 1 1 [.int .u8 (48 + (n : Int) % 10)] rfl rfl HN.o (by simp [Value.oneCell']) (by omega) (by unfold maxLen; omega) (by omega) hs _ rfl ?_; intro g' cap' w3 hown hgr hgg hlt)
  go_ret
  refine ⟨g', cap', by simp, ⟨?_, hlt⟩, hb2.trans (grown_below hgr hgB hs)⟩
  simpa using hown
theorem one_news (w : World) (x : Int) : ∀ j u, [Value.int .u8 x][j]? = some u → (w.alloc (.cells #[.int .u8 x] 5)).cell? ((⟨w.heap.size, 0, none⟩ : Addr).add j) = some u := by
 intro j u hj
 have hj0 : j = 0 := by
  cases j with
  | zero => rfl
  | succ j => simp at hj
 subst hj0
 simp at hj
 subst hj
 simp [Addr.add, go_sem]
theorem bs_news {w : World} {b off len : Nat} {bs : List Int} (h : Bs w (some ⟨b, off, none⟩) len bs) : ∀ j u, (bs.map (Value.int .u8))[j]? = some u → w.cell? ((⟨b, off, none⟩ : Addr).add j) = some u := by
 intro j u hj
 obtain ⟨h1, _, _, h4⟩ := h
 have hjl : j < bs.length := by
  apply Classical.byContradiction
  intro hn
  rw [List.getElem?_eq_none (by simp; omega)] at hj
  cases hj
 obtain ⟨b', off', ha, _, hc⟩ := h4.resolve_left (by omega)
 cases ha
 have ea : (⟨b, off, none⟩ : Addr).add j = ⟨b, off + j, none⟩ := by
  by_cases h0 : j = 0 <;> simp [Addr.add, h0]
 rw [ea, hc j (by omega), ← hj]
 simp [List.getElem?_eq_getElem hjl]
theorem Row8.ge {w : World} {B g n cap : Nat} {bs : List Int} (h : Row8 w B g n cap bs) : B ≤ g := by
 rcases h.1.2 with ⟨h, _⟩ | ⟨g', cap', cur, hv, hB, _⟩
 · cases h
 cases hv; exact hB
theorem oneCell_map (bs : List Int) : ∀ u ∈ bs.map (Value.int .u8), u.oneCell' = true := by
 intro u hu
 obtain ⟨x, _, rfl⟩ := List.mem_map.1 hu
 rfl
theorem Row8.grown {w3 : World} {B g n cap : Nat} {us bs : List Int} {vs : List Value} (h : w3.ownsRow B 5 1 (.slice (some ⟨g, 0, none⟩) n cap) n (us.map (Value.int .u8) ++ vs)) (hv : vs = bs.map (Value.int .u8)) (hl : g < w3.heap.size) : Row8 w3 B g n cap (us ++ bs) := by
 subst hv
 rw [← List.map_append] at h
 exact ⟨h, hl⟩
theorem l1show_name (n s : Int) (b off len cap : Nat) (bs : List Int) (w : World) (hB : Bs w (some ⟨b, off, none⟩) len bs) (h1 : 1 ≤ len) :
 Calls Tryz.prog 99 #[.agg #[.int .i64 0, .slice (some ⟨b, off, none⟩) len cap, .int .i64 n, .int .i64 s]] w fun e w' => DigRes w (60 :: (bs ++ [62])) e w' := by
 obtain ⟨i0, hi0, hzz⟩ := Option.map_eq_some_iff.1 Tryz.info5
 simp only [Prod.mk.injEq] at hzz
 obtain ⟨hi2, hi1, hi3⟩ := hzz
 have hlen := hB.1
 have h20 := hB.2.1
 have R1 : ∀ o, Row8 ((w.alloc o).alloc (.cells #[.int .u8 60] 5)) w.heap.size (w.heap.size + 1) 1 1 [60] := fun o => by
  have := (Row8.new (w.alloc o) 60).mono (B' := w.heap.size) (by simp)
  simpa using this
 have HN : Hd (∀ o o', ∀ j u, (bs.map (Value.int .u8))[j]? = some u → ((w.alloc o).alloc o').cell? ((⟨b, off, none⟩ : Addr).add j) = some u) := fun o o' => bs_news (hB.below (bl_alloc (bl_a _) _))
 have HR := iH R1
 clear R1 hB
 go_in
 go_wp2_with (first
  | (refine wpList_append_lies _ rfl (.tmp 9) (.tmp 11) 42 rfl w.heap.size 5 i0 (.int .u8 0) 1 1 Tryz.underlying42 hi0 hi2 hi1 hi3 rfl (by omega) (.slice (some ⟨w.heap.size + 1, 0, none⟩) 1 1) 1 [.int .u8 60] rfl (HR.o _).1 ⟨b, off, none⟩ len _ (bs.map (Value.int .u8)) rfl (by simp [hlen]) (HN.o _ _) (oneCell_map bs) (by omega) (by unfold maxLen; omega) (by omega) (bl_alloc (bl_a _) _).size _ rfl ?_; intro g3 cap3 w3 hown3 hgr3 hgg3 hlt3; have hr3 := Row8.grown (us := [60]) hown3 rfl hlt3; have hb3 : Bl w w3 := (bl_alloc (bl_a _) _).trans (grown_below (g := w.heap.size + 1) hgr3 (Nat.le_succ _) (bl_alloc (bl_a _) _).size); clear hown3 hgr3 hgg3; have HR3 : Hd (Row8 (w3.alloc (.cells #[.int .u8 62] 5)) w.heap.size g3 (1 + len) cap3 ([60] ++ bs)) := hr3.below (bl_a _); have HB3 : Hd (Bl w (w3.alloc (.cells #[.int .u8 62] 5))) := bl_alloc hb3 _; clear hr3 hb3)
  | (refine wpList_append_lies _ rfl (.tmp 12) (.tmp 13) 42 rfl w.heap.size 5 i0 (.int .u8 0) 1 1 Tryz.underlying42 hi0 hi2 hi1 hi3 rfl (by omega) (.slice (some ⟨g3, 0, none⟩) (1 + len) cap3) (1 + len) (([60] ++ bs).map (Value.int .u8)) rfl HR3.o.1 ⟨w3.heap.size, 0, none⟩ 1 _ [.int .u8 62] rfl rfl (one_news w3 62) (by simp [Value.oneCell']) (by omega) (by unfold maxLen; omega) (by omega) HB3.o.size _ rfl ?_; intro g4 cap4 w4 hown4 hgr4 hgg4 hlt4; have hr4 := Row8.grown (us := [60] ++ bs) (bs := [62]) hown4 rfl hlt4; have hb4 : Bl w w4 := HB3.o.trans (grown_below (g := g3) hgr4 HR3.o.ge HB3.o.size); clear hown4 hgr4 hgg4))
 go_ret
 have el : (60 :: (bs ++ [62]) : List Int).length = 1 + len + 1 := by simp [hlen]; omega
 exact ⟨g4, cap4, by rw [el]; rfl, by rw [el]; exact hr4, hb4⟩
theorem Row8.news {w : World} {B g n cap : Nat} {bs : List Int} (h : Row8 w B g n cap bs) : ∀ j u, (bs.map (Value.int .u8))[j]? = some u → w.cell? ((⟨g, 0, none⟩ : Addr).add j) = some u := by
 intro j u hj
 obtain ⟨⟨h1, h2⟩, hl⟩ := h
 rcases h2 with ⟨h2, _⟩ | ⟨g', cap', cur, hv, hB, hh, hle, _, hsz, htk⟩
 · cases h2
 cases hv
 have ea : (⟨g, 0, none⟩ : Addr).add j = ⟨g, 0 + j, none⟩ := by
  by_cases h0 : j = 0 <;> simp [Addr.add, h0]
 rw [ea, ← hj, ← htk, List.getElem?_take]
 have hjl : j < bs.length := by
  apply Classical.byContradiction
  intro hn
  rw [List.getElem?_eq_none (by simp; omega)] at hj
  cases hj
 have hbl : bs.length = n := by simpa using h1
 rw [if_pos (by omega)]
 simp [World.cell?, hh]
theorem digitsL_pos (n : Nat) : 1 ≤ (digitsL n).length := by
 by_cases h : n < 10
 · rw [digitsL_small h]; simp
 rw [digitsL_step h]; simp
def esc (bs : List Int) : List Int := bs.flatMap fun b => if b = 34 ∨ b = 92 then [92, b] else [b]
theorem esc_snoc (bs : List Int) (b : Int) : esc (bs ++ [b]) = esc bs ++ (if b = 34 ∨ b = 92 then [92, b] else [b]) := by simp [esc]
theorem esc_len (bs : List Int) : (esc bs).length ≤ 2 * bs.length := by
 induction bs with
 | nil => simp [esc]
 | cons b bs ih =>
  have : esc (b :: bs) = (if b = 34 ∨ b = 92 then [92, b] else [b]) ++ esc bs := rfl
  rw [this]
  split <;> simp <;> omega
theorem take_snoc (bs : List Int) (k : Nat) (h : k < bs.length) : bs.take (k + 1) = bs.take k ++ [bs[k]?.getD 0] := by
 rw [List.take_add_one, List.getElem?_eq_getElem h]
 rfl
theorem quoted_any (a : Option Addr) (len cap : Nat) (bs : List Int) (w : World) (hB : Bs w a len bs) :
 Calls Tryz.prog 245 #[.slice a len cap] w fun e w' => DigRes w (34 :: (esc bs ++ [34])) e w' := by
 obtain ⟨i0, hi0, hzz⟩ := Option.map_eq_some_iff.1 Tryz.info5
 simp only [Prod.mk.injEq] at hzz
 obtain ⟨hi2, hi1, hi3⟩ := hzz
 have hlen := hB.1
 have h20 := hB.2.1
 have HR0 := iH (Row8.new w 34)
 have HBs := iH hB
 have HL := iH hlen
 clear hB hlen
 go_in
 go_wp2_with fail
 go_loopw [3, 9] (fun x i wr => ∃ (k g n cap' : Nat), k ≤ len ∧ i = .int .i64 k ∧ x = .slice (some ⟨g, 0, none⟩) n cap' ∧ n ≤ 1 + 2 * k ∧ Hd (Row8 wr w.heap.size g n cap' (34 :: esc (bs.take k))) ∧ Hd (Bl w wr))
  (fun _ i _ => len - (intOf i).toNat)
 case atStart => exact ⟨0, w.heap.size, 1, 1, nZ, rfl, rfl, by omega, HR0, bl_a _⟩
 obtain ⟨k, g, n, cap', hk, rfl, rfl, hn, HR, HB⟩ := hrel
 clear HR0
 by_cases hlk : k < len
 · obtain ⟨b, off, rfl, hbl, hc⟩ := HBs.o.2.2.2.resolve_left (by omega)
   have hx := (HB.o.cell (p := ⟨b, off + k, none⟩) hbl).trans (hc k hlk)
   have hv := HBs.o.2.2.1 k
   have HE : Hd (esc (bs.take (k + 1)) = esc (bs.take k) ++ (if bs[k]?.getD 0 = 34 ∨ bs[k]?.getD 0 = 92 then [92, bs[k]?.getD 0] else [bs[k]?.getD 0])) := by
    show _ = _
    rw [take_snoc bs k (by have := HL.o; omega), esc_snoc]
   clear hc
   generalize bs[k]?.getD 0 = v at *
   have HR1 : ∀ y : Int, Hd (Row8 (wr.alloc (.cells #[.int .u8 y] 5)) w.heap.size g n cap' (34 :: esc (bs.take k))) := fun y => HR.o.below (bl_a _)
   have HB1 : ∀ y : Int, Hd (Bl w (wr.alloc (.cells #[.int .u8 y] 5))) := fun y => bl_alloc HB.o _
   by_cases hq : v = 34 ∨ v = 92
   · have HE' : Hd (esc (bs.take (k + 1)) = esc (bs.take k) ++ [92, v]) := by show _ = _; rw [HE.o, if_pos hq]
     clear HE
     have hor : ((v == 34) || (v == 92)) = true := by simpa using hq
     cases h34 : (v == 34)
     · have h92 : (v == 92) = true := by simpa [h34] using hor
       clear hq hor
       go_wp2_with (first
        | (refine wpList_append_lies _ rfl (.tmp 19) (.tmp 20) 42 rfl w.heap.size 5 i0 (.int .u8 0) 1 1 Tryz.underlying42 hi0 hi2 hi1 hi3 rfl (by omega) (.slice (some ⟨g, 0, none⟩) n cap') n ((34 :: esc (bs.take k)).map (Value.int .u8)) rfl (HR1 92).o.1 ⟨wr.heap.size, 0, none⟩ 1 _ [.int .u8 92] rfl rfl (one_news wr 92) (by simp [Value.oneCell']) (by omega) (by unfold maxLen; omega) (by omega) (HB1 92).o.size _ rfl ?_; intro g3 cap3 w3 hown3 hgr3 hgg3 hlt3; have hr3 : Row8 w3 w.heap.size g3 (n + 1) cap3 ((34 :: esc (bs.take k)) ++ [92]) := Row8.grown (us := 34 :: esc (bs.take k)) (bs := [92]) hown3 rfl hlt3; have hb3 : Bl w w3 := (HB1 92).o.trans (grown_below (g := g) hgr3 HR.o.ge (HB1 92).o.size); clear hown3 hgr3 hgg3; have HR3 : Hd (Row8 (w3.alloc (.cells #[.int .u8 v] 5)) w.heap.size g3 (n + 1) cap3 ((34 :: esc (bs.take k)) ++ [92])) := hr3.below (bl_a _); have HB3 : Hd (Bl w (w3.alloc (.cells #[.int .u8 v] 5))) := bl_alloc hb3 _; clear hr3 hb3)
        | (refine wpList_append_lies _ rfl (.tmp 22) (.tmp 24) 42 rfl w.heap.size 5 i0 (.int .u8 0) 1 1 Tryz.underlying42 hi0 hi2 hi1 hi3 rfl (by omega) (.slice (some ⟨g3, 0, none⟩) (n + 1) cap3) (n + 1) (((34 :: esc (bs.take k)) ++ [92]).map (Value.int .u8)) rfl HR3.o.1 ⟨w3.heap.size, 0, none⟩ 1 _ [.int .u8 v] rfl rfl (one_news w3 v) (by simp [Value.oneCell']) (by omega) (by unfold maxLen; omega) (by omega) HB3.o.size _ rfl ?_; intro g4 cap4 w4 hown4 hgr4 hgg4 hlt4; have HR4 : Hd (Row8 w4 w.heap.size g4 (n + 1 + 1) cap4 (((34 :: esc (bs.take k)) ++ [92]) ++ [v])) := Row8.grown (us := (34 :: esc (bs.take k)) ++ [92]) (bs := [v]) hown4 rfl hlt4; have HB4 : Hd (Bl w w4) := HB3.o.trans (grown_below (g := g3) hgr4 HR3.o.ge HB3.o.size); clear hown4 hgr4 hgg4))
       go_roundw
       case rel =>
        refine ⟨k + 1, g4, n + 1 + 1, cap4, by omega, by go_num, rfl, by omega, ?_, HB4⟩
        have h := HR4.o
        show Row8 _ _ _ _ _ _
        rw [HE'.o]
        simpa using h
       case measure => simp [intOf]; omega
     clear hq hor
     go_wp2_with (first
      | (refine wpList_append_lies _ rfl (.tmp 19) (.tmp 20) 42 rfl w.heap.size 5 i0 (.int .u8 0) 1 1 Tryz.underlying42 hi0 hi2 hi1 hi3 rfl (by omega) (.slice (some ⟨g, 0, none⟩) n cap') n ((34 :: esc (bs.take k)).map (Value.int .u8)) rfl (HR1 92).o.1 ⟨wr.heap.size, 0, none⟩ 1 _ [.int .u8 92] rfl rfl (one_news wr 92) (by simp [Value.oneCell']) (by omega) (by unfold maxLen; omega) (by omega) (HB1 92).o.size _ rfl ?_; intro g3 cap3 w3 hown3 hgr3 hgg3 hlt3; have hr3 : Row8 w3 w.heap.size g3 (n + 1) cap3 ((34 :: esc (bs.take k)) ++ [92]) := Row8.grown (us := 34 :: esc (bs.take k)) (bs := [92]) hown3 rfl hlt3; have hb3 : Bl w w3 := (HB1 92).o.trans (grown_below (g := g) hgr3 HR.o.ge (HB1 92).o.size); clear hown3 hgr3 hgg3; have HR3 : Hd (Row8 (w3.alloc (.cells #[.int .u8 v] 5)) w.heap.size g3 (n + 1) cap3 ((34 :: esc (bs.take k)) ++ [92])) := hr3.below (bl_a _); have HB3 : Hd (Bl w (w3.alloc (.cells #[.int .u8 v] 5))) := bl_alloc hb3 _; clear hr3 hb3)
      | (refine wpList_append_lies _ rfl (.tmp 22) (.tmp 24) 42 rfl w.heap.size 5 i0 (.int .u8 0) 1 1 Tryz.underlying42 hi0 hi2 hi1 hi3 rfl (by omega) (.slice (some ⟨g3, 0, none⟩) (n + 1) cap3) (n + 1) (((34 :: esc (bs.take k)) ++ [92]).map (Value.int .u8)) rfl HR3.o.1 ⟨w3.heap.size, 0, none⟩ 1 _ [.int .u8 v] rfl rfl (one_news w3 v) (by simp [Value.oneCell']) (by omega) (by unfold maxLen; omega) (by omega) HB3.o.size _ rfl ?_; intro g4 cap4 w4 hown4 hgr4 hgg4 hlt4; have HR4 : Hd (Row8 w4 w.heap.size g4 (n + 1 + 1) cap4 (((34 :: esc (bs.take k)) ++ [92]) ++ [v])) := Row8.grown (us := (34 :: esc (bs.take k)) ++ [92]) (bs := [v]) hown4 rfl hlt4; have HB4 : Hd (Bl w w4) := HB3.o.trans (grown_below (g := g3) hgr4 HR3.o.ge HB3.o.size); clear hown4 hgr4 hgg4))
     go_roundw
     case rel =>
      refine ⟨k + 1, g4, n + 1 + 1, cap4, by omega, by go_num, rfl, by omega, ?_, HB4⟩
      have h := HR4.o
      show Row8 _ _ _ _ _ _
      rw [HE'.o]
      simpa using h
     case measure => simp [intOf]; omega
   have HE' : Hd (esc (bs.take (k + 1)) = esc (bs.take k) ++ [v]) := by show _ = _; rw [HE.o, if_neg hq]
   have h34 : (v == 34) = false := by simp; omega
   have h92 : (v == 92) = false := by simp; omega
   clear HE hq
   go_wp2_with (refine wpList_append_lies _ rfl (.tmp 22) (.tmp 24) 42 rfl w.heap.size 5 i0 (.int .u8 0) 1 1 Tryz.underlying42 hi0 hi2 hi1 hi3 rfl (by omega) (.slice (some ⟨g, 0, none⟩) n cap') n ((34 :: esc (bs.take k)).map (Value.int .u8)) rfl (HR1 v).o.1 ⟨wr.heap.size, 0, none⟩ 1 _ [.int .u8 v] rfl rfl (one_news wr v) (by simp [Value.oneCell']) (by omega) (by unfold maxLen; omega) (by omega) (HB1 v).o.size _ rfl ?_; intro g4 cap4 w4 hown4 hgr4 hgg4 hlt4; have HR4 : Hd (Row8 w4 w.heap.size g4 (n + 1) cap4 ((34 :: esc (bs.take k)) ++ [v])) := Row8.grown (us := 34 :: esc (bs.take k)) (bs := [v]) hown4 rfl hlt4; have HB4 : Hd (Bl w w4) := (HB1 v).o.trans (grown_below (g := g) hgr4 HR.o.ge (HB1 v).o.size); clear hown4 hgr4 hgg4)
   go_roundw
   case rel =>
    refine ⟨k + 1, g4, n + 1, cap4, by omega, by go_num, rfl, by omega, ?_, HB4⟩
    have := HR4.o
    show Row8 _ _ _ _ _ _
    rw [HE'.o]
    exact this
   case measure => simp [intOf]; omega
 obtain rfl : k = len := by omega
 have HR' : Hd (Row8 wr w.heap.size g n cap' (34 :: esc bs)) := by
  have := HR.o
  rwa [List.take_of_length_le (by have := HL.o; omega)] at this
 have HR1 : Hd (Row8 (wr.alloc (.cells #[.int .u8 34] 5)) w.heap.size g n cap' (34 :: esc bs)) := HR'.o.below (bl_a _)
 have HB1 : Hd (Bl w (wr.alloc (.cells #[.int .u8 34] 5))) := bl_alloc HB.o _
 have HNL : Hd (n = (34 :: esc bs : List Int).length) := by
  have := HR'.o.1.1
  show _ = _
  simpa using this.symm
 clear HR
 go_wp2_with (refine wpList_append_lies _ rfl (.tmp 27) (.tmp 28) 42 rfl w.heap.size 5 i0 (.int .u8 0) 1 1 Tryz.underlying42 hi0 hi2 hi1 hi3 rfl (by omega) (.slice (some ⟨g, 0, none⟩) n cap') n ((34 :: esc bs).map (Value.int .u8)) rfl HR1.o.1 ⟨wr.heap.size, 0, none⟩ 1 _ [.int .u8 34] rfl rfl (one_news wr 34) (by simp [Value.oneCell']) (by omega) (by unfold maxLen; omega) (by omega) HB1.o.size _ rfl ?_; intro g4 cap4 w4 hown4 hgr4 hgg4 hlt4; have hr4 := Row8.grown (us := 34 :: esc bs) (bs := [34]) hown4 rfl hlt4; have hb4 : Bl w w4 := HB1.o.trans (grown_below (g := g) hgr4 HR'.o.ge HB1.o.size); clear hown4 hgr4 hgg4)
 go_ret
 have el : (34 :: (esc bs ++ [34]) : List Int).length = n + 1 := by rw [HNL.o]; simp
 exact ⟨g4, cap4, by rw [el]; rfl, by rw [el]; exact hr4, hb4⟩
end Go.Proofs.YthljoojcpbignaaGreatDoor
