/- The contract of the model's Calc. -/
import Derived.Test.YtjhobhkdncdnaaeCalH
import Derived.Test.YtjhobhkdncdnaaeCalI
import Derived.Test.YtjhobhkdncdnaaeCalJ
import Derived.Test.YtjhobhkdncdnaaeCalK
import Derived.Test.YtjhobhkdncdnaaeCalL
namespace Go.Proofs.Ytjhobhkdncdnaae
open Go.RowKit Go.Deep

theorem l1calc_any (op k k' n n' : Int) (s s' : Nat) (a a' : Option Addr) (len cap len' cap' : Nat) (w : World) (h1 : -1000000000000000 ≤ n) (h2 : n ≤ 1000000000000000) (h1' : -1000000000000000 ≤ n') (h2' : n' ≤ 1000000000000000) (hs : s ≤ 6) (hs' : s' ≤ 6) :
    Calls Try.prog 39 #[.int .i64 op, .agg #[.int .i64 k, .slice a len cap, .int .i64 n, .int .i64 s], .agg #[.int .i64 k', .slice a' len' cap', .int .i64 n', .int .i64 s']] w fun e w' => e = .returned (resV (calcP op n s n' s')) ∧ Below w.heap.size w w' := by
  by_cases o0 : op = 0
  · subst o0; exact l1calc_add k k' n n' s s' a a' len cap len' cap' w h1 h2 h1' h2' hs hs'
  by_cases o1 : op = 1
  · subst o1; exact l1calc_sub k k' n n' s s' a a' len cap len' cap' w h1 h2 h1' h2' hs hs'
  by_cases o2 : op = 2
  · subst o2; exact l1calc_mul k k' n n' s s' a a' len cap len' cap' w h1 h2 h1' h2' hs hs'
  by_cases o3 : op = 3
  · subst o3; exact l1calc_div k k' n n' s s' a a' len cap len' cap' w h1 h2 h1' h2' hs hs'
  · exact l1calc_other op k k' n n' s s' a a' len cap len' cap' w h1 h2 h1' h2' hs hs' o0 o1 o2 o3
end Go.Proofs.Ytjhobhkdncdnaae
