/- How many bytes a slice of a bounded bulk holds. Conditions: none. -/
import Derived.Test.YtpakohlniaiclaaRows
namespace Go.Proofs.Ytpakohlniaiclaa

theorem bulk_one {H : Type} (d : DataW H) : 0 < Rows.uptoBulk d := by
  match d with
  | .lit (.string _) => simp [Rows.uptoBulk]
  | .lit (.bool _) => simp [Rows.uptoBulk]
  | .lit (.int _ _) => simp [Rows.uptoBulk]
  | .lit (.float _ _) => simp [Rows.uptoBulk]
  | .lit .nil => simp [Rows.uptoBulk]
  | .nil => simp [Rows.uptoBulk]
  | .ptr _ => simp [Rows.uptoBulk]
  | .slice _ _ => simp [Rows.uptoBulk]
  | .agg _ => simp [Rows.uptoBulk]
  | .iface _ _ => simp [Rows.uptoBulk]
  | .map _ => simp [Rows.uptoBulk]
  | .held _ => simp [Rows.uptoBulk]

theorem bulk_many {H : Type} : ∀ l : List (DataW H), l.length ≤ Rows.uptoBulkAll l
  | [] => Nat.zero_le _
  | d :: l => by
    have h1 := bulk_one d
    have h2 := bulk_many l
    simp only [Rows.uptoBulkAll, List.length_cons]
    omega

theorem bulk_bts {H : Type} {d : DataW H} {l : List Nat} (h : l = [] ∨ ∃ elems rest, d = .slice elems rest ∧ l.length ≤ elems.length) : l.length ≤ Rows.uptoBulk d := by
  rcases h with rfl | ⟨elems, rest, rfl, hl⟩
  · simp
  · have := bulk_many elems
    simp only [Rows.uptoBulk]
    omega
end Go.Proofs.Ytpakohlniaiclaa
