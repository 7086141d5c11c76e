/- Contracts: heaps: a move that wins: HeapMove, the model. -/
import Derived.Test.YtodmaomngpnboaaYf
set_option linter.unusedVariables false
namespace Go.Proofs.Ytodmaomngpnboaa
open Go.RowKit

theorem hm_ret {hs ms : List Int} {e : Ending} (h : HmEnd (resHM hs ms) ms e) : e = .returned (.tuple #[.int .i64 (res_HeapMove hs ms), .int .i64 (res2_HeapMove hs ms), .bool (ok_HeapMove hs ms)]) := h
theorem impl_HeapMove (hs : List Int) (v : Value) (ms : List Int) (u : Value) (w : World) (hn : hs.length ≤ 1048576) (h : Sl (Value.int .i64) 0 w v hs) (hn' : ms.length ≤ 1048576) (h' : Sl (Value.int .i64) 0 w u ms) :
    Calls Try.prog 41 #[v, u] w fun e w' => e = .returned (.tuple #[.int .i64 (res_HeapMove hs ms), .int .i64 (res2_HeapMove hs ms), .bool (ok_HeapMove hs ms)]) ∧ Below w.heap.size w w' :=
  (impl_HeapMove0 hs v ms u w hn h hn' h').mono fun _ _ ⟨h1, h2⟩ => ⟨hm_ret h1, h2⟩
end Go.Proofs.Ytodmaomngpnboaa
