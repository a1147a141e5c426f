/- Contracts of creds.Same and of its reference. -/
import Derived.Test.YtjiaoppdpomjhaaV7
import Derived.Laws.StructEq
import Derived.Deep.RegionWith
namespace Go.Proofs.Ytjiaoppdpomjhaa
open Go.RowKit

theorem who_eql (w : World) (a b c d a' b' c' d' : Int) : (binOp .eql 47 (.agg #[.int .u32 a, .int .u32 b, .int .u32 c, .int .u32 d]) (.agg #[.int .u32 a', .int .u32 b', .int .u32 c', .int .u32 d'])).run Try.prog w = .ok (.bool (a == a' && (b == b' && (c == c' && d == d')))) w := by
  rw [run_eql_struct, run_equalIn_agg w 9999 _ _ _ (by kernel_rfl) (by kernel_rfl)]
  have hf : (Try.prog.fieldsOf 47).toList.map (fun f => (f.name == "_", f.type, f.offset)) = [(false, 22, 0), (false, 22, 1), (false, 22, 2), (false, 22, 3)] := by kernel_rfl
  simp [go_sem, Try.underlying47, Try.underlying22, Program.fieldsOf]
  repeat' split
  all_goals simp_all

theorem five_keep {w w' : World} {b : Nat} {v0 v1 v2 v3 v4 : Value} (hb : Below w.heap.size w w') (h0 : w.cell? ⟨b, 0, none⟩ = some v0) (h1 : w.cell? ⟨b, 1, none⟩ = some v1) (h2 : w.cell? ⟨b, 2, none⟩ = some v2) (h3 : w.cell? ⟨b, 3, none⟩ = some v3) (h4 : w.cell? ⟨b, 4, none⟩ = some v4) :
    w'.cell? ⟨b, 0, none⟩ = some v0 ∧ w'.cell? ⟨b, 1, none⟩ = some v1 ∧ w'.cell? ⟨b, 2, none⟩ = some v2 ∧ w'.cell? ⟨b, 3, none⟩ = some v3 ∧ w'.cell? ⟨b, 4, none⟩ = some v4 :=
  ⟨keepC hb h0, keepC hb h1, keepC hb h2, keepC hb h3, keepC hb h4⟩

def sameB (u e s g u' e' s' g' : Int) (l l' : List Int) : Bool := (u == u' && (e == e' && (s == s' && g == g'))) && eqN l l'

end Go.Proofs.Ytjiaoppdpomjhaa
