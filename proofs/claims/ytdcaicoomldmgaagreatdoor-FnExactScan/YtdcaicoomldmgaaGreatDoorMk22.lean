/- Texts put together: StqH StsB -/
import Derived.Test.YtdcaicoomldmgaaGreatDoorMk09
import Derived.Test.YtdcaicoomldmgaaGreatDoorMk21
import Derived.Test.YtdcaicoomldmgaaGreatDoorMk15
/- StqH -/
namespace Go.Proofs.YtdcaicoomldmgaaGreatDoor
open Go.RowKit Go.Deep
set_option maxRecDepth 100000

theorem Row8.bs {w : World} {B g n cap : Nat} {bs : List Int} (h : Row8 w B g n cap bs) (hb : Byt bs) (hn : n ≤ 1048576) : Bs w (some ⟨g, 0, none⟩) n bs := by
  have hl := h.len
  refine ⟨hl, hn, hb.get, ?_⟩
  right
  refine ⟨g, 0, rfl, h.2, fun i hi => ?_⟩
  rcases h.1.2 with ⟨hv, _⟩ | ⟨g', c', cur, hv, _, hh, hle, _, hsz, htk⟩
  · cases hv
  · cases hv
    have hi' : i < bs.length := by omega
    have e : (bs.map (Value.int .u8))[i]? = some (.int .u8 (bs[i]?.getD 0)) := by simp [hi']
    rw [← htk, List.getElem?_take, if_pos (by omega)] at e
    rw [Nat.zero_add]
    simp only [World.cell?, hh]
    simpa using e

theorem heap_new (W : World) (o : Obj) (b : Nat) (h : b = W.heap.size) : (W.alloc o).heap[b]? = some o := by
  subst h
  simp [World.alloc, -World.alloc_eq]

set_option maxHeartbeats 4000000 in
theorem l2ownTerm_any (x : TB) (w : World) (h : Bs w x.t.a x.t.len x.b) :
    Calls Tryz.prog 77 #[.agg #[.int .i64 x.t.k, .slice x.t.a x.t.len x.t.cap, .int .i64 x.t.n, .int .i64 x.t.s]] w fun e w' => ∃ a' cap', e = .returned (.agg #[.int .i64 x.t.k, .slice a' x.t.len cap', .int .i64 x.t.n, .int .i64 x.t.s]) ∧ Bs w' a' x.t.len x.b ∧ (∀ p, a' = some p → w.heap.size ≤ p.block) ∧ Below w.heap.size w w' := by
  obtain ⟨⟨k, a, len, cap, n, s⟩, bs⟩ := x
  dsimp only at h ⊢
  obtain ⟨h1, h2, h3, h4⟩ := h
  by_cases h0 : len = 0
  · subst h0
    have hb : bs = [] := List.eq_nil_of_length_eq_zero h1
    subst hb
    clear h1 h2 h3 h4
    have e0 : ∀ (W : World) b, (storeCells ⟨b, 0, none⟩ ([] : List Value)).run Tryz.prog W = .ok () W := fun W b => by simp [storeCells]
    cases a with
    | none =>
      go_enter Tryz.func77, Tryz.ntmps77
      go_wp2
      refine bodyPost_ret (v := .agg #[.int .i64 k, .slice (some ⟨w.heap.size + 1 + 1, 0, none⟩) 0 0, .int .i64 n, .int .i64 s]) (by simp [results, Tryz.results77, go_sem, *]) rfl ?_
      exact ⟨_, _, rfl, ⟨rfl, by omega, by simp, .inl rfl⟩, fun p hp => (by cases hp; show w.heap.size ≤ w.heap.size + 1 + 1; omega), bl_alloc (bl_alloc (bl_a _) _) _⟩
    | some ad =>
      go_enter Tryz.func77, Tryz.ntmps77
      go_wp2
      refine bodyPost_ret (v := .agg #[.int .i64 k, .slice (some ⟨w.heap.size + 1 + 1, 0, none⟩) 0 0, .int .i64 n, .int .i64 s]) (by simp [results, Tryz.results77, go_sem, *]) rfl ?_
      exact ⟨_, _, rfl, ⟨rfl, by omega, by simp, .inl rfl⟩, fun p hp => (by cases hp; show w.heap.size ≤ w.heap.size + 1 + 1; omega), bl_alloc (bl_alloc (bl_a _) _) _⟩
  · obtain ⟨b, off, rfl, hlt, hc⟩ := h4.resolve_left h0
    have HBY : Hid (Byt bs) := Byt.of h3
    have HL : Hid (bs.length = len) := h1
    have HC : Hid (∀ i, i < len → w.cell? ⟨b, off + i, none⟩ = some (.int .u8 (bs[i]?.getD 0))) := hc
    have hB3 : Below w.heap.size w (((w.alloc (.cells #[.int .i64 k, .slice (some ⟨b, off, none⟩) len cap, .int .i64 n, .int .i64 s] 52)).alloc (.cells #[.int .i64 0, .slice none 0 0, .int .i64 0, .int .i64 0] 52)).alloc (.cells #[] 5)) := bl_alloc (bl_alloc (bl_a _) _) _
    have HN : Hid (∀ j u, (bs.map (Value.int .u8))[j]? = some u → (((w.alloc (.cells #[.int .i64 k, .slice (some ⟨b, off, none⟩) len cap, .int .i64 n, .int .i64 s] 52)).alloc (.cells #[.int .i64 0, .slice none 0 0, .int .i64 0, .int .i64 0] 52)).alloc (.cells #[] 5)).cell? ((⟨b, off, none⟩ : Addr).add j) = some u) := by
      intro j u hj
      have ea : (⟨b, off, none⟩ : Addr).add j = ⟨b, off + j, none⟩ := by
        by_cases h0 : j = 0 <;> simp [Addr.add, h0]
      rw [ea, hB3.cell (p := ⟨b, off + j, none⟩) hlt]
      have hj' : j < bs.length := by
        have := (List.getElem?_eq_some_iff.1 hj).1
        simpa using this
      rw [hc j (by omega)]
      rw [← hj]
      simp [hj']
    have HO : Hid ((((w.alloc (.cells #[.int .i64 k, .slice (some ⟨b, off, none⟩) len cap, .int .i64 n, .int .i64 s] 52)).alloc (.cells #[.int .i64 0, .slice none 0 0, .int .i64 0, .int .i64 0] 52)).alloc (.cells #[] 5)).ownsRow (w.heap.size + 1 + 1) 5 1 (.slice (some ⟨w.heap.size + 1 + 1, 0, none⟩) 0 0) 0 (([] : List Int).map (Value.int .u8))) :=
      ⟨rfl, .inr ⟨w.heap.size + 1 + 1, 0, #[], rfl, Nat.le_refl _, heap_new _ _ _ (by simp), Nat.le_refl _, Nat.zero_le _, rfl, rfl⟩⟩
    have hB0 : w.heap.size + 1 + 1 ≤ (((w.alloc (.cells #[.int .i64 k, .slice (some ⟨b, off, none⟩) len cap, .int .i64 n, .int .i64 s] 52)).alloc (.cells #[.int .i64 0, .slice none 0 0, .int .i64 0, .int .i64 0] 52)).alloc (.cells #[] 5)).heap.size := by simp
    have HX : Hid (∀ wA, Below (w.heap.size + 1 + 1) (((w.alloc (.cells #[.int .i64 k, .slice (some ⟨b, off, none⟩) len cap, .int .i64 n, .int .i64 s] 52)).alloc (.cells #[.int .i64 0, .slice none 0 0, .int .i64 0, .int .i64 0] 52)).alloc (.cells #[] 5)) wA → wA.cell? ⟨w.heap.size, 0, none⟩ = some (.int .i64 k) ∧ wA.cell? ⟨w.heap.size, 1, none⟩ = some (.slice (some ⟨b, off, none⟩) len cap) ∧ wA.cell? ⟨w.heap.size, 2, none⟩ = some (.int .i64 n) ∧ wA.cell? ⟨w.heap.size, 3, none⟩ = some (.int .i64 s) ∧ wA.frozen? ⟨w.heap.size, 1, none⟩ = false ∧ wA.cell? ⟨w.heap.size + 1, 0, none⟩ = some (.int .i64 0) ∧ wA.cell? ⟨w.heap.size + 1, 1, none⟩ = some (.slice none 0 0) ∧ wA.cell? ⟨w.heap.size + 1, 2, none⟩ = some (.int .i64 0) ∧ wA.cell? ⟨w.heap.size + 1, 3, none⟩ = some (.int .i64 0) ∧ wA.frozen? ⟨w.heap.size + 1, 0, none⟩ = false ∧ wA.frozen? ⟨w.heap.size + 1, 1, none⟩ = false ∧ wA.frozen? ⟨w.heap.size + 1, 2, none⟩ = false ∧ wA.frozen? ⟨w.heap.size + 1, 3, none⟩ = false) := fun wA HBA => ⟨(HBA.cell (p := ⟨w.heap.size, 0, none⟩) (by show w.heap.size < _; omega)).trans (by simp [go_sem]), (HBA.cell (p := ⟨w.heap.size, 1, none⟩) (by show w.heap.size < _; omega)).trans (by simp [go_sem]), (HBA.cell (p := ⟨w.heap.size, 2, none⟩) (by show w.heap.size < _; omega)).trans (by simp [go_sem]), (HBA.cell (p := ⟨w.heap.size, 3, none⟩) (by show w.heap.size < _; omega)).trans (by simp [go_sem]), (HBA.frozen (p := ⟨w.heap.size, 1, none⟩) (by show w.heap.size < _; omega)).trans (by simp [go_sem]), (HBA.cell (p := ⟨w.heap.size + 1, 0, none⟩) (by show w.heap.size + 1 < _; omega)).trans (by simp [go_sem]), (HBA.cell (p := ⟨w.heap.size + 1, 1, none⟩) (by show w.heap.size + 1 < _; omega)).trans (by simp [go_sem]), (HBA.cell (p := ⟨w.heap.size + 1, 2, none⟩) (by show w.heap.size + 1 < _; omega)).trans (by simp [go_sem]), (HBA.cell (p := ⟨w.heap.size + 1, 3, none⟩) (by show w.heap.size + 1 < _; omega)).trans (by simp [go_sem]), (HBA.frozen (p := ⟨w.heap.size + 1, 0, none⟩) (by show w.heap.size + 1 < _; omega)).trans (by simp [go_sem]), (HBA.frozen (p := ⟨w.heap.size + 1, 1, none⟩) (by show w.heap.size + 1 < _; omega)).trans (by simp [go_sem]), (HBA.frozen (p := ⟨w.heap.size + 1, 2, none⟩) (by show w.heap.size + 1 < _; omega)).trans (by simp [go_sem]), (HBA.frozen (p := ⟨w.heap.size + 1, 3, none⟩) (by show w.heap.size + 1 < _; omega)).trans (by simp [go_sem])⟩
    clear h3 h4 hc hB3 h1
    go_enter Tryz.func77, Tryz.ntmps77
    go_wp2_with (refine app8 rfl (.tmp 3) (.tmp 5) rfl (w.heap.size + 1 + 1) (.slice (some ⟨w.heap.size + 1 + 1, 0, none⟩) 0 0) 0 [] rfl HO ⟨b, off, none⟩ len cap bs rfl HL.out HN (by omega) len (by omega) bs (by simp) (by omega) hB0 ?_; intro gA cA wA HRA _ _ HBA; obtain ⟨q0, q1, q2, q3, q4, z0, z1, z2, z3, y0, y1, y2, y3⟩ := HX.out wA HBA.out)
    have HBW : Hid (Below w.heap.size w wA) := (bl_alloc (bl_alloc (bl_a _) _) _).trans (HBA.out.mono (by omega))
    have HBS : Hid (Bs wA (some ⟨gA, 0, none⟩) len bs) := HRA.out.bs HBY.out h2
    have hgA : w.heap.size + 1 + 1 ≤ gA := by
      rcases HRA.out.1.2 with ⟨hv, _⟩ | ⟨g', c', cur, hv, hb, _⟩
      · cases hv
      · cases hv; exact hb
    refine bodyPost_ret (v := .agg #[.int .i64 k, .slice (some ⟨gA, 0, none⟩) len cA, .int .i64 n, .int .i64 s]) (by simp [results, Tryz.results77, go_sem, *]) rfl ?_
    refine ⟨_, _, rfl, ?_, fun p hp => (by cases hp; show w.heap.size ≤ gA; omega), ?_⟩
    · repeat (first | exact HBS.out | (refine Bs.but ?_ ((But.refl _ _).set _ _) (by omega)))
    · repeat (first | exact HBW.out | (refine bl_set ?_ (by first | (dsimp only; omega) | omega) _))
end Go.Proofs.YtdcaicoomldmgaaGreatDoor

/- StsB -/
namespace Go.Proofs.YtdcaicoomldmgaaGreatDoor
open Go.RowKit Go.Deep Go.Sort Go.Lib
set_option maxRecDepth 100000

/-- The base may be an elder world. -/
theorem swk_up {w0 w w' : World} {blk off : Nat} {d0 d d' : Array (Int × Int × Int)} (R : RowK encR 3 w0 blk off d0) (S : SWK encR 3 w0 blk off d w) (h : SWK encR 3 w blk off d' w') (hs : d'.size = d.size) : SWK encR 3 w0 blk off d' w' := by
  obtain ⟨m, os, rfl⟩ := h
  exact S.on R.hblk m d' os hs
theorem rowk_up {w0 w : World} {blk off : Nat} {d0 d : Array (Int × Int × Int)} (R : RowK encR 3 w0 blk off d0) (S : SWK encR 3 w0 blk off d w) (hs : d.size = d0.size) : RowK encR 3 w blk off d := ⟨R.hk, R.h1, S.holds R.hblk R.hH hs, S.lt R.hblk⟩

set_option maxHeartbeats 4000000 in
theorem order2M (o : Nat) (ho : o < 6) (blk off cap a b c s : Nat) (d0 d : Array (Int × Int × Int)) (w0 W : World) (R : RowK encR 3 w0 blk off d0) (hs : d.size = d0.size) (C : CntK encR 3 w0 blk off d c s W) (ha : a < d.size) (hb : b < d.size) (_hsz : d.size < 4611686018427387904) (hss : s < 4611686018427387904) :
    Calls Tryz.prog 178 #[.slice (some ⟨blk, off, none⟩) d.size cap, .int .i64 a, .int .i64 b, .pointer (some ⟨c, 0, none⟩), .func (.func 87) #[.int .i64 o] #[]] W fun e w' =>
      e = .returned (.tuple #[.int .i64 (order2 (ltOf (rcmp o)) d a b s).1, .int .i64 (order2 (ltOf (rcmp o)) d a b s).2.1]) ∧ CntK encR 3 w0 blk off d c (order2 (ltOf (rcmp o)) d a b s).2.2 w' := by
  have mixed : Tryz.prog.follows .mixedOrders = true := by kernel_rfl
  have HCn : Hid (CntK encR 3 w0 blk off d c s W) := C
  obtain ⟨xa, hxa⟩ : ∃ x, d[a]! = x := ⟨_, rfl⟩
  obtain ⟨xb, hxb⟩ : ∃ x, d[b]! = x := ⟨_, rfl⟩
  have hL := fun n os => swk_at3 (C.1.grown n os) R hs a ha
  have hP := fun n os => swk_at3 (C.1.grown n os) R hs b hb
  rw [hxa] at hL
  rw [hxb] at hP
  have l0 := fun n os => (hL n os).1
  have l1 := fun n os => (hL n os).2.1
  have l2 := fun n os => (hL n os).2.2
  have q0 := fun n os => (hP n os).1
  have q1 := fun n os => (hP n os).2.1
  have q2 := fun n os => (hP n os).2.2
  have hcg := fun n os => cmpM o ho xb xa (grow (W.drewN n) os)
  have az : (a : Int) < (d.size : Int) := by omega
  have bz : (b : Int) < (d.size : Int) := by omega
  clear hL hP R C hs
  by_cases hlv : rcmp o xb xa < 0
  · have ho2 : order2 (ltOf (rcmp o)) d a b s = (b, a, s + 1) := by unfold order2; rw [if_pos (by rw [hxa, hxb]; exact decide_eq_true hlv)]
    rw [ho2]
    clear ho2 ho
    go_enter Tryz.func178, Tryz.ntmps178
    go_wp2_with fail
    go_quiet_grown (first | (go_at_call 87; refine Calls.grown_of (hcg _ _)))
    have HC2 : Hid (CntK encR 3 w0 blk off d c s (grow (W.drewN nq) osq)) := HCn.out.grown nq osq
    clear l0 l1 l2 q0 q1 q2 hcg
    generalize grow (W.drewN nq) osq = w2 at HC2 ⊢
    have hcc := HC2.out.2.1
    have hcf := HC2.out.2.2.1
    go_wp2
    simp [bodyPost, results, Tryz.results178, go_sem]
    have := HC2.out.bump (s + 1)
    simpa using this
  · have ho2 : order2 (ltOf (rcmp o)) d a b s = (a, b, s) := by unfold order2; rw [if_neg (by rw [hxa, hxb]; simp [ltOf]; omega)]
    rw [ho2]
    clear ho2 ho
    go_enter Tryz.func178, Tryz.ntmps178
    go_wp2_with fail
    go_quiet_grown (first | (go_at_call 87; refine Calls.grown_of (hcg _ _)))
    go_wp2_with fail
    simp [bodyPost, results, Tryz.results178, go_sem]
    exact HCn.out.grown nq osq

theorem order2_lt (lt : Int × Int × Int → Int × Int × Int → Bool) (d : Array (Int × Int × Int)) (a b s n : Nat) (ha : a < n) (hb : b < n) : (order2 lt d a b s).1 < n ∧ (order2 lt d a b s).2.1 < n ∧ (order2 lt d a b s).2.2 ≤ s + 1 := by
  unfold order2
  split
  · exact ⟨hb, ha, Nat.le_refl _⟩
  · exact ⟨ha, hb, Nat.le_succ _⟩

set_option maxHeartbeats 4000000 in
theorem medianM (o : Nat) (ho : o < 6) (blk off cap a b c' c s : Nat) (d0 d : Array (Int × Int × Int)) (w0 W : World) (R : RowK encR 3 w0 blk off d0) (hs : d.size = d0.size) (C : CntK encR 3 w0 blk off d c s W) (ha : a < d.size) (hb : b < d.size) (hc : c' < d.size) (hsz : d.size < 4611686018427387904) (hss : s + 3 < 4611686018427387904) :
    Calls Tryz.prog 167 #[.slice (some ⟨blk, off, none⟩) d.size cap, .int .i64 a, .int .i64 b, .int .i64 c', .pointer (some ⟨c, 0, none⟩), .func (.func 87) #[.int .i64 o] #[]] W fun e w' =>
      e = .returned (.int .i64 (median (ltOf (rcmp o)) d a b c' s).1) ∧ CntK encR 3 w0 blk off d c (median (ltOf (rcmp o)) d a b c' s).2 w' := by
  have O := fun (a b s : Nat) (W : World) (C : CntK encR 3 w0 blk off d c s W) (ha : a < d.size) (hb : b < d.size) (hss : s < 4611686018427387904) => order2M o ho blk off cap a b c s d0 d w0 W R hs C ha hb hsz hss
  have h1 := order2_lt (ltOf (rcmp o)) d a b s d.size ha hb
  have c1 := O a b s W C ha hb (by omega)
  rw [show median (ltOf (rcmp o)) d a b c' s = (let r1 := order2 (ltOf (rcmp o)) d a b s; let r2 := order2 (ltOf (rcmp o)) d r1.2.1 c' r1.2.2; let r3 := order2 (ltOf (rcmp o)) d r1.1 r2.1 r2.2.2; (r3.2.1, r3.2.2)) from rfl]
  generalize order2 (ltOf (rcmp o)) d a b s = r1 at *
  obtain ⟨x1, y1, s1⟩ := r1
  dsimp only at *
  have h2 := order2_lt (ltOf (rcmp o)) d y1 c' s1 d.size h1.2.1 hc
  have c2 := fun W C => O y1 c' s1 W C h1.2.1 hc (by omega)
  generalize order2 (ltOf (rcmp o)) d y1 c' s1 = r2 at *
  obtain ⟨x2, y2, s2⟩ := r2
  dsimp only at *
  have c3 := fun W C => O x1 x2 s2 W C h1.1 h2.1 (by omega)
  generalize order2 (ltOf (rcmp o)) d x1 x2 s2 = r3 at *
  obtain ⟨x3, y3, s3⟩ := r3
  dsimp only at *
  clear O R C hs
  go_enter Tryz.func167, Tryz.ntmps167
  go_wp2_with fail
  refine c1.mono ?_
  rintro e w1 ⟨rfl, C1⟩
  go_wp2_with fail
  refine (c2 _ C1).mono ?_
  rintro e w2 ⟨rfl, C2⟩
  go_wp2_with fail
  refine (c3 _ C2).mono ?_
  rintro e w3 ⟨rfl, C3⟩
  go_wp2_with fail
  go_ret
  exact ⟨rfl, C3⟩

set_option maxHeartbeats 4000000 in
theorem medAdjM (o : Nat) (ho : o < 6) (blk off cap a c s : Nat) (d0 d : Array (Int × Int × Int)) (w0 W : World) (R : RowK encR 3 w0 blk off d0) (hs : d.size = d0.size) (C : CntK encR 3 w0 blk off d c s W) (ha1 : 1 ≤ a) (ha2 : a + 1 < d.size) (hsz : d.size < 4611686018427387904) (hss : s + 3 < 4611686018427387904) :
    Calls Tryz.prog 166 #[.slice (some ⟨blk, off, none⟩) d.size cap, .int .i64 a, .pointer (some ⟨c, 0, none⟩), .func (.func 87) #[.int .i64 o] #[]] W fun e w' =>
      e = .returned (.int .i64 (medianAdjacent (ltOf (rcmp o)) d a s).1) ∧ CntK encR 3 w0 blk off d c (medianAdjacent (ltOf (rcmp o)) d a s).2 w' := by
  have M := medianM o ho blk off cap (a - 1) a (a + 1) c s d0 d w0 W R hs C (by omega) (by omega) ha2 hsz hss
  unfold medianAdjacent
  obtain ⟨p, rfl⟩ : ∃ p, a = p + 1 := ⟨a - 1, by omega⟩
  simp only [Nat.add_sub_cancel] at M ⊢
  generalize median (ltOf (rcmp o)) d p (p + 1) (p + 1 + 1) s = r at *
  clear R C hs
  have e1 : IntKind.i64.wrap ((p : Int) + 1 + 1) = (p : Int) + 1 + 1 := by rw [IntKind.wrap_i64]; omega
  have e2 : IntKind.i64.wrap (p : Int) = (p : Int) := by rw [IntKind.wrap_i64]; omega
  simp only [Int.natCast_add, Int.cast_ofNat_Int] at M
  go_enter Tryz.func166, Tryz.ntmps166
  go_wp2_with fail
  refine M.mono ?_
  rintro e w1 ⟨rfl, C1⟩
  go_wp2_with fail
  go_ret
  exact ⟨rfl, C1⟩

set_option maxHeartbeats 4000000 in
theorem revM (fv : Value) (blk off cap a b : Nat) (d : Array (Int × Int × Int)) (w : World) (R : RowK encR 3 w blk off d) (hab : a ≤ b) (hb : b ≤ d.size) (hsz : d.size < 4611686018427387904) :
    Calls Tryz.prog 146 #[.slice (some ⟨blk, off, none⟩) d.size cap, .int .i64 a, .int .i64 b, fv] w fun e w' => e = .returned (.tuple #[]) ∧ SWK encR 3 w blk off (reverseRange d a b) w' := by
  have mixed : Tryz.prog.follows .mixedOrders = true := by kernel_rfl
  have HR : Hid (RowK encR 3 w blk off d) := R
  clear R
  go_enter Tryz.func146, Tryz.ntmps146
  go_wp2
  go_loopg [8, 9] (b - a) (fun g1 vi vj wr => ∃ (i j : Nat) (dk : Array (Int × Int × Int)), vi = .int .i64 i ∧ vj = .int .i64 ((j : Int) - 1) ∧ j ≤ d.size ∧ i ≤ d.size ∧ j - i ≤ g1 ∧ dk.size = d.size ∧ Hid (SWK encR 3 w blk off dk wr) ∧ Hid (reverseLoop i (j - 1) dk = reverseRange d a b))
  case atStart => exact ⟨a, b, d, rfl, by go_num, hb, by omega, Nat.le_refl _, rfl, SWK.start HR.out.hH, rfl⟩
  case round =>
    obtain ⟨i, j, dk, rfl, rfl, hj, hi, hg1, hsk, HS, HO⟩ := hrel
    by_cases hlt : i < j - 1
    · obtain ⟨jp, rfl⟩ : ∃ jp, j = jp + 2 := ⟨j - 2, by omega⟩
      have ej : (((jp + 2 : Nat) : Int) - 1) = ((jp + 1 : Nat) : Int) := by omega
      rw [ej]
      have hltz : (i : Int) < ((jp + 1 : Nat) : Int) := by omega
      have iz : (i : Int) < (d.size : Int) := by omega
      have jz : ((jp + 1 : Nat) : Int) < (d.size : Int) := by omega
      obtain ⟨xi, hxi⟩ : ∃ x, dk[i]! = x := ⟨_, rfl⟩
      obtain ⟨xj, hxj⟩ : ∃ x, dk[jp + 1]! = x := ⟨_, rfl⟩
      obtain ⟨l0, l1, l2⟩ := hxi ▸ swk_at3 HS.out HR.out hsk i (by omega)
      obtain ⟨q0, q1, q2⟩ := hxj ▸ swk_at3 HS.out HR.out hsk (jp + 1) (by omega)
      obtain ⟨z0, z1, z2⟩ := swk_fr3 HS.out HR.out hsk i (by omega)
      obtain ⟨y0, y1, y2⟩ := swk_fr3 HS.out HR.out hsk (jp + 1) (by omega)
      go_wp2_with fail
      go_big_region_o
      all_goals go_wp2
      go_roundg (jp - i)
      case measure => omega
      case rel =>
        refine ⟨i + 1, jp + 1, swp dk i (jp + 1), by go_num, by go_num, by omega, by omega, by omega, by rw [size_swp]; exact hsk, swk_swp3 HS.out HR.out i (jp + 1) (by omega) (by omega) hxi hxj, (show Hid _ from ?_)⟩
        show _ = _
        rw [← HO.out, reverseLoop.eq_1 i, if_pos hlt]
        rfl
    · have hltz : ¬ (i : Int) < (j : Int) - 1 := by omega
      go_wp2
      go_end0
      refine ⟨rfl, ?_⟩
      have := HO.out
      rw [reverseLoop.eq_1, if_neg hlt] at this
      rw [← this]
      exact HS.out
end Go.Proofs.YtdcaicoomldmgaaGreatDoor
