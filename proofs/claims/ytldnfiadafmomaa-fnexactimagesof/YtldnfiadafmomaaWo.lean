/- Cells without that of a key: the model, and the walks of spec.l1Without and impl.withoutCell. -/
import Derived.Test.YtldnfiadafmomaaFind
namespace Go.Proofs.Ytldnfiadafmomaa
open Go.RowKit Go.Deep
set_option linter.unusedVariables false

/-- A list of cells, place by place. -/
def cl : List (Int × Int) → List Value
  | [] => []
  | c :: r => .int .i64 c.1 :: .int .i64 c.2 :: cl r
theorem cl_len : ∀ L, (cl L).length = L.length * 2
  | [] => rfl
  | c :: r => by simp only [cl, List.length_cons, cl_len r]; omega
theorem cl_app : ∀ L M, cl (L ++ M) = cl L ++ cl M
  | [], M => rfl
  | c :: r, M => by simp only [List.cons_append, cl, cl_app r M]
def kOf (L : List (Int × Int)) (i : Nat) : Int := (L.getD i (0, 0)).1
def vOf (L : List (Int × Int)) (i : Nat) : Int := (L.getD i (0, 0)).2
theorem cl_key : ∀ (L : List (Int × Int)) (i : Nat), i < L.length → (cl L)[i * 2]? = some (.int .i64 (kOf L i)) ∧ (cl L)[i * 2 + 1]? = some (.int .i64 (vOf L i))
  | [], i, h => by simp at h
  | c :: r, 0, _ => by simp [cl, kOf, vOf]
  | c :: r, i + 1, h => by
    have ih := cl_key r i (by simpa using h)
    have e1 : (i + 1) * 2 = i * 2 + 1 + 1 := by omega
    rw [e1]
    simp only [cl, List.getElem?_cons_succ]
    exact ih
def wo (K V : Nat → Int) (key : Int) : Nat → List (Int × Int)
  | 0 => []
  | k + 1 => if K k = key then wo K V key k else wo K V key k ++ [(K k, V k)]
theorem wo_len (K V : Nat → Int) (key : Int) : ∀ k, (wo K V key k).length ≤ k
  | 0 => by simp [wo]
  | k + 1 => by have := wo_len K V key k; simp only [wo]; split <;> simp <;> omega
theorem cell_two_new2 (w : World) (o : Obj) (a b : Value) (t : TypeId) : ∀ j u, [a, b][j]? = some u → ((w.alloc o).alloc (.cells #[a, b] t)).cell? ((⟨w.heap.size + 1, 0, none⟩ : Addr).add j) = some u := by
  have h := cell_two_new (w.alloc o) a b t
  simpa using h
end Go.Proofs.Ytldnfiadafmomaa
