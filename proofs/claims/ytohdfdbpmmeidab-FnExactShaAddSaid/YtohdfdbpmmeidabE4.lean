/-
  Marks on a digest under way, whose list may be nil.
-/
import Derived.Test.YtohdfdbpmmeidabE3
import Derived.Test.YtohdfdbpmmeidabD14
namespace Go.Proofs.Ytohdfdbpmmeidab
set_option linter.unusedVariables false
set_option linter.unusedSimpArgs false
open Go.RowKit
/-- The block of a slice. -/
def own (v : Value) : Option Nat := match v with | .slice (some a) _ _ => some a.block | _ => none
/-- All that stands in w stands in w' but the slice's own row. -/
def Kv (v : Value) (w w' : World) : Prop := ∃ p, Kb p w w' ∧ ∀ b, b < w.heap.size → own v ≠ some b → b ≠ p
theorem Blk.kv {v : Value} {w w' : World} {b : Nat} {c : Array Value} {t : TypeId} (h : Blk w b c t) (k : Kv v w w') (hne : own v ≠ some b) : Blk w' b c t := by
  obtain ⟨p, k1, k2⟩ := k
  exact h.kb k1 (k2 b h.lt hne)
theorem RowZ.kv {v : Value} {w w' : World} {b : Nat} {xs : List Int} (h : RowZ w b xs) (k : Kv v w w') (hne : own v ≠ some b) : RowZ w' b xs := by
  obtain ⟨p, k1, k2⟩ := k
  exact h.kb k1 (k2 b h.lt hne)
theorem SlZ.kv {v u : Value} {w w' : World} {xs : List Int} (h : SlZ w u xs) (k : Kv v w w') (hne : ∀ b, own u = some b → own v ≠ some b) : SlZ w' u xs := by
  rcases h with h | ⟨b, cap, rfl, hr⟩
  · exact .inl h
  · exact .inr ⟨b, cap, rfl, hr.kv k (hne b rfl)⟩
theorem Kv.below {v : Value} {w w' : World} (k : Kv v w w') {B : Nat} (hB : ∀ g, own v = some g → B ≤ g) (hw : B ≤ w.heap.size) : Below B w w' := by
  obtain ⟨p, k1, k2⟩ := k
  refine ⟨k1.os, k1.tape, k1.output, World.grownBy.size k1, fun b hb => k1.block b (by omega) (fun e => ?_)⟩
  injection e with e
  exact k2 b (by omega) (fun h => by have := hB b h; omega) e
theorem SlZ.lt {w : World} {v : Value} {xs : List Int} (h : SlZ w v xs) {g : Nat} (hg : own v = some g) : g < w.heap.size := by
  rcases h with ⟨rfl, _⟩ | ⟨b, cap, rfl, hr⟩
  · cases hg
  · have e : b = g := Option.some.inj hg
    subst e
    exact hr.lt
theorem SlZ.kb {p : Nat} {u : Value} {w w' : World} {xs : List Int} (h : SlZ w u xs) (k : Kb p w w') (hne : ∀ b, own u = some b → b ≠ p) : SlZ w' u xs := by
  rcases h with h | ⟨b, cap, rfl, hr⟩
  · exact .inl h
  · exact .inr ⟨b, cap, rfl, hr.kb k (hne b rfl)⟩
theorem SlZ.form {w : World} {v : Value} {xs : List Int} (h : SlZ w v xs) : ∃ oa m cp, v = .slice oa m cp := by
  rcases h with ⟨rfl, _⟩ | ⟨b, cap, rfl, _⟩
  · exact ⟨_, _, _, rfl⟩
  · exact ⟨_, _, _, rfl⟩
theorem markSha_v (v : Value) (xs : List Int) (r : ByteArray) (z : Int) (w : World) (h : SlZ w v xs) (hn : xs.length ≤ 1048576) (hz : v = .slice none 0 0 → r = ⟨#[]⟩ ∧ z = 0) :
    Calls Try.prog 16 #[.agg #[v, .string r, .int .i64 z], .int .i64 1] w fun e w' => e = .returned (.int .i64 (1 + (xs.length : Int))) ∧ SlZ w' v (marks 1 xs.length) ∧ Kv v w w' := by
  rcases h with ⟨rfl, rfl⟩ | ⟨b, cap, rfl, hr⟩
  · obtain ⟨rfl, rfl⟩ := hz rfl
    refine (markSha_nil w).mono ?_
    rintro e w' ⟨rfl, hb⟩
    exact ⟨rfl, .inl ⟨rfl, rfl⟩, w.heap.size, ⟨hb.os, hb.tape, hb.output, hb.size, fun k hk _ => hb.block k hk⟩, fun b hb _ => by omega⟩
  · refine (markSha_row b xs.length cap xs r z w hr rfl hn).mono ?_
    rintro e w' ⟨rfl, h1, h2⟩
    refine ⟨rfl, .inr ⟨b, cap, by rw [marks_len], h1⟩, b, h2, fun b' _ hne => ?_⟩
    intro e
    apply hne
    rw [e]
    rfl
theorem heldSha_v (v : Value) (n : Nat) (r : ByteArray) (z : Int) (w : World) (h : SlZ w v (marks 1 n)) (hn : n ≤ 1048576) (hz : v = .slice none 0 0 → r = ⟨#[]⟩ ∧ z = 0) :
    Calls Try.prog 17 #[.agg #[v, .string r, .int .i64 z], .int .i64 1] w fun e w' => e = .returned (.int .i64 (1 + (n : Int))) ∧ Below w.heap.size w w' := by
  rcases h with ⟨rfl, h0⟩ | ⟨b, cap, rfl, hr⟩
  · obtain ⟨rfl, rfl⟩ := hz rfl
    have : n = 0 := by have := marks_len 1 n; rw [h0] at this; exact this.symm
    subst this
    exact heldSha_nil w
  · rw [marks_len]
    exact heldSha_row b n cap r z w hr hn
/-- What ShaAdd answers. -/
theorem add_all (xs : List Int) (r b : ByteArray) (n : Int) (hb : b.size ≤ 1048576) (hr : r.size ≤ 1048576) : ∃ (ys : List Int) (rr : ByteArray) (nn : Int), ys.length ≤ 5 ∧ rr.size ≤ 1048576 ∧ (ys = [] → rr = ⟨#[]⟩ ∧ nn = 0) ∧ ∀ (c len : Nat) (w : World), RowZ w c xs → xs.length = len → len ≤ maxLen →
    (Calls Try.prog 29 #[shaV c len len r n, .string b] w fun e w' => ∃ v, e = .returned (.agg #[v, .string rr, .int .i64 nn]) ∧ SlZ w' v ys ∧ (∀ g, own v = some g → w.heap.size ≤ g) ∧ Below w.heap.size w w') ∧
    (Calls Try.prog 28 #[shaV c len len r n, .string b] w fun e w' => ∃ v, e = .returned (.agg #[v, .string rr, .int .i64 nn]) ∧ SlZ w' v ys ∧ (∀ g, own v = some g → w.heap.size ≤ g) ∧ Below w.heap.size w w') := by
  have hbm : b.size ≤ maxLen := by unfold maxLen; omega
  have hrm : r.size ≤ maxLen := by unfold maxLen; omega
  cases h : addQ xs r.size n b.size with
  | false =>
    refine ⟨[], ⟨#[]⟩, 0, by decide, by decide, fun _ => ⟨rfl, rfl⟩, fun c len w hx hl hm => ⟨?_, ?_⟩⟩
    · refine (ShaAdd_no c len len xs r b n w hx hl hm hrm hbm h).mono ?_
      rintro e w' ⟨rfl, hb⟩
      exact ⟨_, rfl, .inl ⟨rfl, rfl⟩, (fun g hg => by cases hg), hb⟩
    · refine (sShaAdd_no c len len xs r b n w hx hl hm hrm hbm h).mono ?_
      rintro e w' ⟨rfl, hb⟩
      exact ⟨_, rfl, .inl ⟨rfl, rfl⟩, (fun g hg => by cases hg), hb⟩
  | true =>
    unfold addQ at h
    rw [Bool.and_eq_true, decide_eq_true_eq] at h
    obtain ⟨hq, hle⟩ := h
    obtain ⟨h1, ⟨h2, h3⟩, h4⟩ := shaQ_iff.1 hq
    obtain ⟨l, f, rfl⟩ := fiveZ_nat h1
    obtain ⟨m, rfl⟩ := Int.eq_ofNat_of_zero_le h2
    have hf := inH_five f (r.data.toList ++ b.data.toList)
    refine ⟨nz (inH l (r.data.toList ++ b.data.toList)), ⟨(inR (r.data.toList ++ b.data.toList)).toArray⟩, ((m + b.size : Nat) : Int), by rw [nz_len, hf.1]; omega, ?_, ?_, fun c len w hx hl _ => ?_⟩
    · show (inR (r.data.toList ++ b.data.toList)).toArray.size ≤ _
      rw [List.size_toArray, inR_len]
      omega
    · intro h0
      have := congrArg List.length h0
      rw [nz_len, hf.1] at this
      cases this
    · have e5 : len = 5 := by rw [← hl, nz_len]; exact f.1
      subst e5
      refine ⟨?_, ?_⟩
      · refine (ShaAdd_any c 5 l r b m w hx.n f (by omega) (by omega)).mono ?_
        rintro e w' ⟨g, rfl, hg, hrow, hb'⟩
        exact ⟨_, rfl, .inr ⟨g, 5, by rw [nz_len, hf.1], hrow.z⟩, (fun g' h' => by have : g = g' := Option.some.inj h'; omega), hb'⟩
      · refine (sShaAdd_any c 5 l r b m w hx.n f (by omega) (by omega)).mono ?_
        rintro e w' ⟨g, cp, rfl, hg, hrow, hb'⟩
        exact ⟨_, rfl, .inr ⟨g, cp, by rw [nz_len, hf.1], hrow.z⟩, (fun g' h' => by have : g = g' := Option.some.inj h'; omega), hb'⟩
end Go.Proofs.Ytohdfdbpmmeidab
