/- The document's Thin. -/
import Derived.Test.YtlipapclbemjjaaDoorCloseOfCardK33
import Derived.Test.YtlipapclbemjjaaDoorCloseOfCardK37
import Derived.Test.YtlipapclbemjjaaDoorCloseOfCardK26
import Derived.Test.YtlipapclbemjjaaDoorCloseOfCardK38
set_option linter.unusedVariables false
set_option linter.unusedSimpArgs false
namespace Go.Proofs.YtlipapclbemjjaaDoor
open Go.RowKit
attribute [local go_sem ↓] Go.wp_at_zero Go.wp_at_succ
theorem nodup_le : ∀ (l k : List (Int × Int)), l.Nodup → (∀ x ∈ l, x ∈ k) → l.length ≤ k.length := by
 intro l
 induction l with
 | nil => intro k _ _; simp
 | cons x l ih =>
  intro k hd hs
  obtain ⟨h1, h2⟩ := List.nodup_cons.1 hd
  have hx : x ∈ k := hs x List.mem_cons_self
  have h3 := ih (k.erase x) h2 (fun y hy => (List.mem_erase_of_ne (fun (e : y = x) => h1 (by rw [← e]; exact hy))).2 (hs y (List.mem_cons_of_mem _ hy)))
  rw [List.length_erase_of_mem hx] at h3
  have := List.length_pos_of_mem hx
  rw [List.length_cons]
  omega
theorem redges_le {n : Nat} {l : List (Int × Int)} (w : WfE n l) : (redgesTo n l n).length ≤ l.length := nodup_le _ _ (nodup_redges n l) (fun e he => (mem_redges w).1 he)
theorem redges_mem {n : Nat} {h l : List (Int × Int)} (hs : ∀ e, e ∈ h ↔ e ∈ l) (k : Nat) : redgesTo n h k = redgesTo n l k := by
 unfold redgesTo rrowE nextL
 simp only [hs]
end Go.Proofs.YtlipapclbemjjaaDoor
