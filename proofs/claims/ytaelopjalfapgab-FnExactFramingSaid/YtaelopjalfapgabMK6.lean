/-
  Chapter 6: how a body is bounded, on lists. No Go in sight.
-/
import Derived.Test.YtaelopjalfapgabMF
import Derived.Test.YtaelopjalfapgabF5
import Derived.Test.YtaelopjalfapgabF9
import Derived.Test.YtaelopjalfapgabW5
import Derived.Test.YtaelopjalfapgabMV
namespace Go.Proofs.Ytaelopjalfapgab
set_option linter.unusedVariables false
set_option linter.unusedSimpArgs false
open Go.RowKit
def chB : ByteArray := ⟨#[99, 104, 117, 110, 107, 101, 100]⟩
def tAt (l : List ByteArray) (j : Nat) : ByteArray := l.getD j ⟨#[]⟩
def wordsL (l : List Fd) (n : ByteArray) : List ByteArray := elsB (joinB (valuesL l n))
/-- Is 'chunked' the only word? -/
def chkQ (ws : List ByteArray) : Bool := ((ws.length : Int) == 1) && eqB (foldB (tAt ws 0)) chB
/-- Are all words the same number? -/
def sameW (ws : List ByteArray) : Bool := ws.all fun x => eqB x (tAt ws 0)
def oneO (ws : List ByteArray) : Bool := !((ws.length : Int) == 0) && sameW ws && rdecOk (tAt ws 0)
def oneN (ws : List ByteArray) : Int := if oneO ws = true then rdecN (tAt ws 0) else 0
def teQ (l : List Fd) : Bool := getO l teN
def clQ (l : List Fd) : Bool := getO l clN
def frK (l : List Fd) (answer bare : Bool) : Int :=
  if fieldsQ l = false then 4
  else if teQ l = true ∧ (clQ l = true ∨ chkQ (wordsL l teN) = false) then 4
  else if clQ l = true ∧ oneO (wordsL l clN) = false then 4
  else if bare = true then 0
  else if teQ l = true then 2
  else if clQ l = true then 1
  else if answer = true then 3
  else 0
def frN (l : List Fd) (answer bare : Bool) : Int := if frK l answer bare = 1 then oneN (wordsL l clN) else 0
theorem words_len (l : List Fd) (n : ByteArray) : (wordsL l n).length ≤ 4001 := elsB_len _
theorem words_size (l : List Fd) (n : ByteArray) : ∀ j, (tAt (wordsL l n) j).size ≤ maxLen := by
  intro j
  unfold tAt maxLen
  rcases Nat.lt_or_ge j (wordsL l n).length with h | h
  · rw [List.getD, List.getElem?_eq_getElem h]
    have h2 : ((wordsL l n)[j]).size ≤ 100000 := elsB_sz (joinB (valuesL l n)) (by have := joinB_size (l := l) (n := n); omega) _ (List.getElem_mem h)
    show ((wordsL l n)[j]).size ≤ _
    omega
  · rw [List.getD, List.getElem?_eq_none h]
    show (0 : Nat) ≤ _
    omega
theorem sameW_yes {ws : List ByteArray} (h : ∀ j, j < ws.length → tAt ws j = tAt ws 0) : sameW ws = true := by
  unfold sameW
  rw [List.all_eq_true]
  intro x hx
  obtain ⟨j, hj, rfl⟩ := List.mem_iff_getElem.1 hx
  have := h j hj
  unfold tAt at this
  rw [List.getD, List.getElem?_eq_getElem hj] at this
  rw [eqB_iff]
  exact this
theorem sameW_no {ws : List ByteArray} {k : Nat} (hk : k < ws.length) (h : ¬ tAt ws k = tAt ws 0) : sameW ws = false := by
  cases hs : sameW ws with
  | false => rfl
  | true =>
    exfalso
    unfold sameW at hs
    rw [List.all_eq_true] at hs
    have := eqB_iff.1 (hs _ (List.getElem_mem hk))
    apply h
    rw [← this]
    unfold tAt
    rw [List.getD, List.getElem?_eq_getElem hk]
    rfl
theorem sameW_at {ws : List ByteArray} (h : sameW ws = true) {k : Nat} (hk : k < ws.length) : tAt ws k = tAt ws 0 := by
  by_cases h1 : tAt ws k = tAt ws 0
  · exact h1
  · rw [sameW_no hk h1] at h; cases h
theorem rdec_inj {a b : ByteArray} (ha : rdecOk a = true) (hb : rdecOk b = true) (h : rdecN a = rdecN b) : a = b := by
  unfold rdecOk rdecN at *
  obtain ⟨u, hu⟩ := Option.isSome_iff_exists.1 ha
  obtain ⟨v, hv⟩ := Option.isSome_iff_exists.1 hb
  rw [hu, hv] at h
  simp only [Option.getD_some] at h
  have huv : u = v := by omega
  subst huv
  have key : ∀ {s : ByteArray}, rdec s = some u → s.data.toList = Lib.decDigits u := by
    intro s hs
    unfold rdec at hs
    split at hs
    · rename_i hc
      have := Option.some.inj hs
      rw [← this]; exact hc.2.2.2.symm
    · cases hs
  apply bytes_ext
  rw [key hu, key hv]
theorem frK_no {l : List Fd} {answer bare : Bool} (h : fieldsQ l = false) : frK l answer bare = 4 ∧ frN l answer bare = 0 := by
  have h1 : frK l answer bare = 4 := by unfold frK; rw [if_pos h]
  exact ⟨h1, by unfold frN; rw [h1]; rfl⟩
/-- The kind and the number, of what was found. -/
def frK2 (te cl chk one answer bare : Bool) : Int := if te = true ∧ (cl = true ∨ chk = false) then 4 else if cl = true ∧ one = false then 4 else if bare = true then 0 else if te = true then 2 else if cl = true then 1 else if answer = true then 3 else 0
def frN2 (te cl chk one answer bare : Bool) (n : Int) : Int := if frK2 te cl chk one answer bare = 1 then n else 0
theorem frK_yes {l : List Fd} {answer bare : Bool} (h : fieldsQ l = true) : frK l answer bare = frK2 (teQ l) (clQ l) (chkQ (wordsL l teN)) (oneO (wordsL l clN)) answer bare ∧ frN l answer bare = frN2 (teQ l) (clQ l) (chkQ (wordsL l teN)) (oneO (wordsL l clN)) answer bare (oneN (wordsL l clN)) := by
  have h1 : frK l answer bare = frK2 (teQ l) (clQ l) (chkQ (wordsL l teN)) (oneO (wordsL l clN)) answer bare := by unfold frK; rw [if_neg (by rw [h]; simp)]; rfl
  exact ⟨h1, by unfold frN frN2; rw [h1]⟩
end Go.Proofs.Ytaelopjalfapgab
