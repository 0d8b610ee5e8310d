/-
  Layer 10: a packet that is stored in a new variable.
-/
import Derived.Test.YtjpojlkdogaalaaAwakeA
namespace Go.Proofs.Ytjpojlkdogaalaa
open Go.RowKit
set_option linter.unusedVariables false
set_option linter.unusedSimpArgs false

section
variable {w : World} {ops : Array Oper} {rest : List Oper} {o : Oper} {a : Act} {Q : Exit → Act → World → Prop}

theorem pk_fresh (hgd : o.guard = none) (x y : Operand) (ho : o.op = .store 31 x y)
    (W : World) (c0 c1 c2 c3 c4 c5 c6 : Value) (hx : a.eval x = .pointer (some ⟨W.heap.size, 0, none⟩)) (hy : a.eval y = .agg #[c0, c1, c2, c3, c4, c5, c6]) (h1 : (#[c0, c1, c2, c3, c4, c5, c6] : Array Value).all (·.oneCell') = true)
    (h : ∀ w' : World, w'.heap[W.heap.size]? = some (.cells #[c0, c1, c2, c3, c4, c5, c6] 31 (0, 0)) → Below W.heap.size W w' → wpList Try.prog ops Q rest (a.put o.dst undef) w') :
    wpList Try.prog ops Q (o :: rest) a (W.alloc (.cells #[.int .u8 0, .int .u32 0, .int .u32 0, .int .u32 0, .int .u32 0, .bool false, .slice none 0 0] 31)) := by
  refine pk_st hgd x y ho W.heap.size c0 c1 c2 c3 c4 c5 c6 hx hy (pkb_new W) h1 ?_
  obtain ⟨g, b, _⟩ := pk_var W c0 c1 c2 c3 c4 c5 c6 _ rfl
  exact h _ g b
end

end Go.Proofs.Ytjpojlkdogaalaa
