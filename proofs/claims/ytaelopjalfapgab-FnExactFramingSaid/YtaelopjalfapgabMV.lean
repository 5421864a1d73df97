/-
  How long the elements of a list are. No Go in sight.
-/
import Derived.Test.YtaelopjalfapgabMW
import Derived.Test.YtaelopjalfapgabWE
namespace Go.Proofs.Ytaelopjalfapgab
set_option linter.unusedVariables false
set_option linter.unusedSimpArgs false
open Go.RowKit
theorem elsB_sz (s : ByteArray) (h : s.size ≤ 4000) : ∀ t ∈ elsB s, t.size ≤ 100000 := by
  have key : ∀ (L : List UInt8) (q : Nat) (cur : List UInt8), ∀ p ∈ elG q cur L, p.length ≤ cur.length + L.length := by
    intro L
    induction L with
    | nil => intro q cur p hp; rw [elG_nil] at hp; simp at hp; subst hp; simp
    | cons b r ih =>
      intro q cur p hp
      match q with
      | 0 =>
        rw [elG] at hp
        split at hp
        · rcases List.mem_cons.1 hp with rfl | hp
          · simp
          · have := ih 0 [] p hp; simp at this ⊢; omega
        · have := ih _ _ p hp; simp at this ⊢; omega
      | 1 => rw [elG] at hp; have := ih _ _ p hp; simp at this ⊢; omega
      | n + 2 =>
        rw [elG] at hp
        · have := ih _ _ p hp; simp at this ⊢; omega
        · omega
        · omega
  intro t ht
  rw [els_small h] at ht
  unfold cleanP at ht
  rw [List.mem_flatMap] at ht
  obtain ⟨p, hp, ht⟩ := ht
  unfold keepP at ht
  split at ht
  · simp at ht
  · simp at ht
    subst ht
    have h1 := key _ _ _ p hp
    rw [len_data] at h1
    have h2 : (trimL p).length ≤ p.length := by
      have := trimB_size ⟨p.toArray⟩
      show (trimL p).length ≤ _
      have e : (trimB ⟨p.toArray⟩).size = (trimL p).length := by show (trimL p).toArray.size = _; simp
      have e2 : (ByteArray.mk p.toArray).size = p.length := by show p.toArray.size = _; simp
      omega
    show (trimL p).toArray.size ≤ _
    simp at h1 ⊢; omega
end Go.Proofs.Ytaelopjalfapgab
