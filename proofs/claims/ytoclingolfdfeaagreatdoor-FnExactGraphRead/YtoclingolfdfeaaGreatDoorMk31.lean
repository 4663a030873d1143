/- Texts put together: ReP LxP -/
import Derived.Test.YtoclingolfdfeaaGreatDoorMk30
import Derived.Test.YtoclingolfdfeaaGreatDoorMk26
/- ReP -/
namespace Go.Proofs.YtoclingolfdfeaaGreatDoor
open Go.RowKit Go.Deep
set_option maxRecDepth 100000

theorem cmpD_lt {x y z : T3} (h1 : cmpD x y < 0) (h2 : cmpD y z < 0) : cmpD x z < 0 := by
  have h := ord_cmpD
  have h3 := h.trans x y z (by omega) (by omega)
  have a1 := h.anti x z
  have a3 := h.anti x y
  have : ¬ cmpD z x ≤ 0 := fun h4 => by
    have := h.trans z x y h4 (by omega)
    have a2 := h.anti y z
    omega
  omega
theorem ReadWell.lies {bs : List Int} {len : Nat} {w w' : World} {a : Option Addr} {cap : Nat} {r : List G1} (h : ReadWell bs len w w' a cap r) : ∀ y ∈ r, y.lies w' := fun y hy => ⟨(h.txt y hy).1.bs, (h.txt y hy).2.1.bs, (h.txt y hy).2.2.bs⟩
theorem G1.lies.below {w w' : World} {y : G1} (h : y.lies w) (hb : Below w.heap.size w w') : y.lies w' := ⟨h.1.below hb, h.2.1.below hb, h.2.2.below hb⟩
end Go.Proofs.YtoclingolfdfeaaGreatDoor

/- LxP -/
namespace Go.Proofs.YtoclingolfdfeaaGreatDoor
open Go.RowKit Go.Deep
set_option maxRecDepth 100000

theorem putL_mem {l : List G1} {x : G1} {l' : List G1} (h : PutL l x l') : (∀ y ∈ l', y ∈ l ∨ y = x) ∧ l'.length ≤ l.length + 1 := by
  obtain ⟨j, hj, _, ⟨rfl, _⟩ | ⟨rfl, _⟩⟩ := h
  · exact ⟨fun y hy => .inl hy, Nat.le_succ _⟩
  · refine ⟨fun y hy => ?_, ?_⟩
    · rcases List.mem_append.1 hy with h | h
      · exact .inl (List.mem_of_mem_take h)
      · rcases List.mem_cons.1 h with h | h
        · exact .inr h
        · exact .inl (List.mem_of_mem_drop h)
    · rw [List.length_append, List.length_take, List.length_cons, List.length_drop]
      omega
theorem put_once {ts : List T3} {l : List G1} {x : G1} {l' : List G1} (ho : OnceT ts (l.map G1.td3)) (hg : ∀ y ∈ l, fine3 y.td3) (hx : fine3 x.td3) (h : PutL l x l') : OnceT (ts ++ [x.td3]) (l'.map G1.td3) := by
  obtain ⟨j, hj, hlt, ⟨rfl, y, hy, he⟩ | ⟨rfl, hgt⟩⟩ := h
  · have hyx : y.td3 = x.td3 := ordP_cmpD.z _ _ (hg y (List.mem_of_getElem? hy)) hx he
    refine ⟨ho.asc, fun t => ?_⟩
    rw [ho.mem t, List.mem_append, List.mem_singleton]
    constructor
    · exact .inl
    · rintro (h | rfl)
      · exact h
      · rw [← hyx]
        exact (ho.mem _).1 (List.mem_map_of_mem (List.mem_of_getElem? hy))
  · have hasc := ho.asc
    have hl : l = l.take j ++ l.drop j := (List.take_append_drop j l).symm
    have hA : ((l.take j).map G1.td3 ++ (l.drop j).map G1.td3).Pairwise (fun x y => cmpD x y < 0) := by
      rw [← List.map_append, List.take_append_drop]
      exact hasc
    obtain ⟨h1, h2, h3⟩ := List.pairwise_append.1 hA
    refine ⟨?_, fun t => ?_⟩
    · rw [List.map_append, List.map_cons, List.pairwise_append, List.pairwise_cons]
      refine ⟨h1, ⟨fun b hb => ?_, h2⟩, fun p hp b hb => ?_⟩
      · obtain ⟨y, hy, rfl⟩ := List.mem_map.1 hb
        cases hd : l.drop j with
        | nil =>
          rw [hd] at hy
          cases hy
        | cons z r =>
          have hz : l[j]? = some z := by
            have e : l[j]? = (l.drop j)[0]? := by rw [List.getElem?_drop]; rfl
            rw [e, hd]
            rfl
          have hxz : cmpD x.td3 z.td3 < 0 := by
            have := ord_cmpD.anti x.td3 z.td3
            have := hgt z hz
            omega
          rw [hd] at hy
          rcases List.mem_cons.1 hy with rfl | hy
          · exact hxz
          · rw [hd, List.map_cons, List.pairwise_cons] at h2
            exact cmpD_lt hxz (h2.1 _ (List.mem_map_of_mem hy))
      · obtain ⟨y, hy, rfl⟩ := List.mem_map.1 hp
        rcases List.mem_cons.1 hb with rfl | hb
        · obtain ⟨q, hq, rfl⟩ := List.getElem_of_mem hy
          rw [List.length_take] at hq
          exact hlt q _ (by omega) (by rw [List.getElem_take, List.getElem?_eq_getElem])
        · exact h3 _ (List.mem_map_of_mem hy) _ hb
    · rw [List.map_append, List.map_cons, List.mem_append, List.mem_cons, List.mem_append, List.mem_singleton, ← ho.mem t]
      have : t ∈ l.map G1.td3 ↔ t ∈ (l.take j).map G1.td3 ∨ t ∈ (l.drop j).map G1.td3 := by
        rw [← List.mem_append, ← List.map_append, List.take_append_drop]
      rw [this]
      constructor
      · rintro (h | h | h)
        · exact .inl (.inl h)
        · exact .inr h
        · exact .inl (.inr h)
      · rintro ((h | h) | h)
        · exact .inl h
        · exact .inr (.inr h)
        · exact .inr (.inl h)
/-- What is asked of the k-th token of a group. -/
def okK (k : Nat) (t : PT) : Bool := if k = 0 then okSubj t else if k = 1 then okProp t else if k = 2 then okTerm t else okStop t
theorem tok_get {toks : Toks} {i k : Nat} {x : Nat × PT} (h : toks[i + k]? = some x) : (toks.drop i)[k]? = some x := by rw [List.getElem?_drop]; exact h
/-- A group whose first k tokens fit and whose next one is lacking or doesn't. -/
theorem group_bad {l : Toks} {e : Nat} {k : Nat} (hk : k < 4) (h : ∀ q x, q < k → l[q]? = some x → okK q x.2 = true) (hl : k ≤ l.length) :
    (l.length = k → triP l e = .error e) ∧ ∀ x, l[k]? = some x → okK k x.2 = false → triP l e = .error x.1 := by
  match k, l, hk, h, hl with
  | 0, [], _, _, _ => exact ⟨fun _ => rfl, fun x hx => by cases hx⟩
  | 0, a :: l, _, _, _ =>
    refine ⟨fun h => by simp at h, fun x hx hk => ?_⟩
    cases hx
    have hk : okSubj a.2 = false := hk
    simp [triP, takeP, hk]
  | 1, [a], _, h, _ =>
    have h0 : okSubj a.2 = true := h 0 a (by omega) rfl
    exact ⟨fun _ => by simp [triP, takeP, h0], fun x hx => by cases hx⟩
  | 1, a :: b :: l, _, h, _ =>
    have h0 : okSubj a.2 = true := h 0 a (by omega) rfl
    refine ⟨fun h => by simp at h, fun x hx hk => ?_⟩
    cases hx
    have hk : okProp b.2 = false := hk
    simp [triP, takeP, h0, hk]
  | 2, [a, b], _, h, _ =>
    have h0 : okSubj a.2 = true := h 0 a (by omega) rfl
    have h1 : okProp b.2 = true := h 1 b (by omega) rfl
    exact ⟨fun _ => by simp [triP, takeP, h0, h1], fun x hx => by cases hx⟩
  | 2, a :: b :: c :: l, _, h, _ =>
    have h0 : okSubj a.2 = true := h 0 a (by omega) rfl
    have h1 : okProp b.2 = true := h 1 b (by omega) rfl
    refine ⟨fun h => by simp at h, fun x hx hk => ?_⟩
    cases hx
    have hk : okTerm c.2 = false := hk
    simp [triP, takeP, h0, h1, hk]
  | 3, [a, b, c], _, h, _ =>
    have h0 : okSubj a.2 = true := h 0 a (by omega) rfl
    have h1 : okProp b.2 = true := h 1 b (by omega) rfl
    have h2 : okTerm c.2 = true := h 2 c (by omega) rfl
    exact ⟨fun _ => by simp [triP, takeP, h0, h1, h2], fun x hx => by cases hx⟩
  | 3, a :: b :: c :: d :: l, _, h, _ =>
    have h0 : okSubj a.2 = true := h 0 a (by omega) rfl
    have h1 : okProp b.2 = true := h 1 b (by omega) rfl
    have h2 : okTerm c.2 = true := h 2 c (by omega) rfl
    refine ⟨fun h => by simp at h, fun x hx hk => ?_⟩
    cases hx
    have hk : okStop d.2 = false := hk
    simp [triP, takeP, h0, h1, h2, hk]
/-- A group that fits. -/
theorem group_ok {l : Toks} {e : Nat} (h : ∀ q x, q < 4 → l[q]? = some x → okK q x.2 = true) (hl : 4 ≤ l.length) : ∃ a b c d r, l = a :: b :: c :: d :: r ∧ triP l e = .ok ((a.2.td, b.2.td, c.2.td), r) ∧ okSubj a.2 = true ∧ okProp b.2 = true ∧ okTerm c.2 = true := by
  match l, hl with
  | a :: b :: c :: d :: r, _ =>
    have h0 : okSubj a.2 = true := h 0 a (by omega) rfl
    have h1 : okProp b.2 = true := h 1 b (by omega) rfl
    have h2 : okTerm c.2 = true := h 2 c (by omega) rfl
    have h3 : okStop d.2 = true := h 3 d (by omega) rfl
    exact ⟨a, b, c, d, r, rfl, by simp [triP, takeP, h0, h1, h2, h3], h0, h1, h2⟩
end Go.Proofs.YtoclingolfdfeaaGreatDoor
