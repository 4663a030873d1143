import Derived.Test.YthljoojcpbignaaGreatDoorMk06
namespace Go.Proofs.YthljoojcpbignaaGreatDoor
open Go.RowKit Go.Deep
set_option maxHeartbeats 40000000
set_option maxRecDepth 100000
theorem eqByteSS_of (a a' : Option Addr) (cap cap' n : Nat) (x y : Nat → SL) (w : World) (hn : n ≤ 1048576) (hR : KRow 0 w 1 a n (fun i => (x i).cells)) (hR' : KRow 0 w 1 a' n (fun i => (y i).cells))
 (IH : ∀ i, i < n → ∀ (W : World), Bl w W → Calls Tryz.prog 19 #[.slice (x i).a (x i).len (x i).cap, .slice (y i).a (y i).len (y i).cap] W (Yes W)) :
 Calls Tryz.prog 10 #[.slice a n cap, .slice a' n cap'] w (Yes w) := by
 by_cases hn0 : n = 0
 · subst hn0
   clear hR hR' IH hn
   go_in
   go_wp2
   refine wp_loop_rounds 1 ?_
   rw [rounds_succ]
   go_wp2
   go_ret
   exact ⟨rfl, Below.refl _ _⟩
 obtain ⟨b, off, rfl, _, hlt, hc⟩ := hR.resolve_left hn0
 obtain ⟨b', off', rfl, _, hlt', hc'⟩ := hR'.resolve_left hn0
 have HC := iH (fun i (hi : i < n) c u (hu : ((x i).cells)[c]? = some u) => (by have h := hc i hi c u hu; rwa [Nat.mul_one] at h))
 have HC' : Hd (∀ i, i < n → ∀ c u, ((y i).cells)[c]? = some u → w.cell? ⟨b', off' + i + c, none⟩ = some u) := fun i hi c u hu => (by have h := hc' i hi c u hu; rwa [Nat.mul_one] at h)
 have HI := iH IH
 clear hR hR' hc hc' IH
 go_in
 go_wp2
 go_loopw [5] (fun i wr => ∃ k : Nat, k ≤ n ∧ i = .int .i64 k ∧ Hd (Bl w wr)) (fun i _ => n - (intOf i).toNat)
 case atStart => exact ⟨0, nZ, rfl, Below.refl _ _⟩
 obtain ⟨k, hk, rfl, HB⟩ := hrel
 by_cases hlk : k < n
 · have hlkz : (k : Int) < (n : Int) := by omega
   have HRX : Hd (∀ w', Bl wr w' → w'.rangeAt b (off + k) [.slice (x k).a (x k).len (x k).cap]) := fun w' hw c u hu => ((bl_trans HB.o hw).cell (p := ⟨b, off + k + c, none⟩) hlt).trans (HC.o k hlk c u hu)
   have HRY : Hd (∀ w', Bl wr w' → w'.rangeAt b' (off' + k) [.slice (y k).a (y k).len (y k).cap]) := fun w' hw c u hu => ((bl_trans HB.o hw).cell (p := ⟨b', off' + k + c, none⟩) hlt').trans (HC'.o k hlk c u hu)
   have Z := HI.o k hlk wr.drew (bl_trans HB.o bdr)
   go_wp2_with fail
   refine whd (fun w' => Bl wr w') ?_ fun hHeld => ?_
   · exact Below.drew brf
   refine tkB 0 17 ?_
   refine tkB 1 18 ?_
   refine tkB 2 19 ?_
   refine takeq (i := 3) 20 (v := .slice _ (x k).len (x k).cap) rfl rfl (by kernel_rfl) (by kernel_rfl) (by kernel_rfl) (fun _ _ _ h => h) (Or.inl ⟨by rfl, fun w' hSw => (by have h0 := HRX.o w' hSw 0 _ rfl; simp only [Nat.add_zero] at h0; go_simp; (try with_reducible rfl))⟩) hHeld ?_
   refine tkB 4 21 ?_
   refine tkB 5 22 ?_
   refine tkB 6 23 ?_
   refine takeq (i := 7) 24 (v := .slice _ (y k).len (y k).cap) rfl rfl (by kernel_rfl) (by kernel_rfl) (by kernel_rfl) (fun _ _ _ h => h) (Or.inl ⟨by rfl, fun w' hSw => (by have h0 := HRY.o w' hSw 0 _ rfl; simp only [Nat.add_zero] at h0; go_simp; (try with_reducible rfl))⟩) hHeld ?_
   try simp only [Act.put, sA, zA, cA]
   refine rdA 8 fun K hK => ?_
   go_simp
   refine Z.mono ?_
   rintro e w2 ⟨rfl, hb2⟩
   have HB2 : Hd (Bl wr w2) := bdr.trans hb2
   clear hb2
   go_wp2_with fail
   refine hK.out _ _ ?_ fun hHeld => ?_
   · exact HB2.o
   clear hK K
   refine tkB 9 26 ?_
   refine wpAnyH_done (by kernel_rfl) ?_ _
   have HBq := iH (bl_trans HB.o HB2.o)
   clear hHeld HRX HRY Z HB HB2
   go_wp2
   go_roundw
   case rel => exact ⟨k + 1, by omega, by go_num, HBq⟩
   case measure => simp [intOf]; omega
 obtain rfl : k = n := by omega
 have hlkz : ¬ (k : Int) < (k : Int) := by omega
 go_wp2
 go_ret
 exact ⟨rfl, HB.o⟩
end Go.Proofs.YthljoojcpbignaaGreatDoor
