/-
  The drawing functions of chapter 4: what the laws are asked about.
-/
import Derived.Test.YtknpolmenfdheaaDoorG21
namespace Go.Proofs.YtknpolmenfdheaaDoor
set_option linter.unusedVariables false
set_option linter.unusedSimpArgs false
open Go.RowKit
theorem Bent.from {w0 w w' : World} {v : Value} {l : List Sg} {c : Int} (h : Bent w w' v l c) (k : w0.heap.size ≤ w.heap.size) : Bent w0 w' v l c := by
  obtain ⟨s, h1, h2, h3, h4, h5, h6, h7⟩ := h
  exact ⟨s, h1, h2, h3, h4, h5, h6, fun g e => Nat.le_trans k (h7 g e)⟩
theorem Bent.later {w w' w'' : World} {v : Value} {l : List Sg} {c : Int} (h : Bent w w' v l c) (k : Below w'.heap.size w' w'') : Bent w w'' v l c := by
  obtain ⟨s, h1, h2, h3⟩ := h
  exact ⟨s, h1, h2.later k, h3⟩
theorem Bent.form {w w' : World} {v : Value} {l : List Sg} {c : Int} (h : Bent w w' v l c) : ∃ a cp, v = .agg #[.slice a l.length cp, .int .i64 c] ∧ SlG w' (.slice a l.length cp) l ∧ l.length ≤ 41 ∧ totG l ≤ 60041 ∧ -1 ≤ c ∧ c ≤ 60001 ∧ ∀ g, (Value.slice a l.length cp).ownBlock = some g → w.heap.size ≤ g := by
  obtain ⟨s, h1, h2, h3⟩ := h
  obtain ⟨a, cp, rfl⟩ := h2.form
  exact ⟨a, cp, h1, h2, h3⟩
set_option maxHeartbeats 1000000 in
theorem DrawRoll_any (a : Option Addr) (len cap : Nat) (w : World) (hc : Code w a len) :
    Calls Tryd.prog 25 #[.slice a len cap] w fun e w' => (∃ v l c, e = .returned v ∧ Bent w w' v l c) ∧ Below w.heap.size w w' := by
  have R0 := Blk.new w #[.slice none 0 0, .int .i64 0] 25
  have ba := below_a1 w (.cells #[.slice none 0 0, .int .i64 0] 25)
  have hc1 := hc.later ba
  clear hc
  go_enter Tryd.func25, Tryd.ntmps25
  go_wp2_with fail
  generalize hW : w.alloc (.cells #[.slice none 0 0, .int .i64 0] 25) = W at *
  refine (l1New_any a len cap _ hc1.row hc1.max).mono ?_
  rintro e w1 ⟨rfl, hb1, hd1⟩
  have hWs : W.heap.size = w.heap.size + 1 := by rw [← hW]; simp
  have HWS := hideB2 hWs
  clear hW hWs
  go_wp2_with fail
  refine (l4bent_any _ _ hd1).mono ?_
  rintro e w2 ⟨⟨v, l, c, rfl, hB⟩, hk2, hd2⟩
  obtain ⟨oa, cp, rfl, hsl, h1, h2, h3, h4, hown⟩ := hB.form
  have R2 := (R0.later hb1).kp hk2 (by have := HWS.out; omega)
  have hbw := ba.trans ((hb1.mono ba.size).trans (hk2.below (B := w.heap.size) (by have := HWS.out; omega) hb1.size))
  obtain ⟨r0, r1⟩ := R2.c2
  have f0 := R2.free 0
  have f1 := R2.free 1
  have HR := hideB2 R2
  have HBW := hideB2 hbw
  have hs1 := hb1.size
  have HSL := hideB2 (fun (hx : ∀ g, (Value.slice oa l.length cp).ownBlock = some g → w.heap.size + 1 ≤ g) => hsl)
  have HO := hideB2 hown
  have HS := hideB2 hsl
  clear R0 R2 hbw hk2 hd1 hd2 hb1 hsl hown ba hc1
  go_wp2
  refine bodyPost_ret (results_cellS rfl _ _ _ rfl (HR.out.set2 _ _) Tryd.underlying25 Tryd.infoStore) rfl ⟨⟨_, l, c, rfl, _, rfl, ?_, h1, h2, h3, h4, fun g e => ?_⟩, below_set2 HBW.out (Nat.le_refl _) _ _⟩
  · rcases HS.out with hn | ⟨b, cp', e, hr⟩
    · exact .inl hn
    · refine .inr ⟨b, cp', e, hr.oth2 ?_ _ _⟩
      have := HO.out b (by rw [e]; rfl)
      have := HWS.out
      omega
  · have := HO.out g e
    have := HWS.out
    omega
def lastN (l : List Sg) : Nat := (lastG l).1.size
set_option maxHeartbeats 1000000 in
theorem l4last_any (v : Value) (l : List Sg) (c : Int) (w : World) (hv : SlG w v l) (hl : l.length ≤ 1048576) (ht : totG l ≤ 1099511627776) :
    Calls Tryd.prog 45 #[.agg #[v, .int .i64 c]] w fun e w' => e = .returned (.int .i64 (lastN l : Int)) ∧ Below w.heap.size w w' := by
  obtain ⟨a, c0, rfl⟩ := hv.form
  have ha := below_a1 w (.cells #[.slice a l.length c0, .int .i64 c] 25)
  have A0 := Blk.new w #[.slice a l.length c0, .int .i64 c] 25
  have hv1 := hv.later ha
  by_cases h0 : l.length = 0
  · have h0b : ((l.length : Int) == 0) = true := by rw [beq_iff_eq]; omega
    have hln : (lastN l : Int) = 0 := by
      have : l = [] := List.length_eq_zero_iff.1 h0
      subst this; rfl
    have HLN := hideB2 hln
    clear hln
    go_enter Tryd.func45, Tryd.ntmps45
    go_wp2
    go_ret
    exact ⟨ret_int HLN.out, below_a1 w _⟩
  · have h0b : ((l.length : Int) == 0) = false := by rw [beq_eq_false_iff_ne]; omega
    obtain ⟨b, rfl, hr⟩ := hv1.row (by omega)
    have hd0 := hr.dat (l.length - 1) (by omega)
    have hat := totG_at l (l.length - 1) (by omega)
    have hln : lastN l = (sgAt l (l.length - 1)).1.size := rfl
    have HLN := hideB2 hln
    clear hln hr hv hv1
    generalize (sgAt l (l.length - 1)).1 = d at *
    generalize l.length = n at *
    have em : (n : Int) - 1 = ((n - 1 : Nat) : Int) := by omega
    have hi1 : ((n - 1 : Nat) : Int) < (n : Int) := by omega
    have hdm : (d.size : Int) ≤ 1099511627776 := by omega
    go_enter Tryd.func45, Tryd.ntmps45
    go_wp2
    go_ret
    exact ⟨ret_int (by rw [HLN.out]), ha⟩
def abcL : List Sg := [(⟨#[97, 98, 99]⟩, 0)]
theorem abc1 : appR [sg0] 5 ⟨#[97, 98, 99]⟩ = (some abcL, 0) := by decide +kernel
theorem abc2 : appR abcL 5 ⟨#[100, 101, 102]⟩ = (none, 2) := by decide +kernel
theorem abc3 : (if storeQ abcL 5 = true then catB abcL else ⟨#[]⟩) = ⟨#[97, 98, 99]⟩ := by decide +kernel
theorem abc4 : (if storeQ abcL 5 = true then ((sgAt abcL (abcL.length - 1)).1.size : Int) - (sgAt abcL (abcL.length - 1)).2 else -1) = 3 := by decide +kernel
theorem abc5 : crashR abcL 5 1 = some [(⟨#[97]⟩, 1)] := by decide +kernel
theorem abc6 : (if storeQ [(⟨#[97]⟩, 1)] 5 = true then catB [(⟨#[97]⟩, 1)] else ⟨#[]⟩) = ⟨#[97]⟩ := by decide +kernel
end Go.Proofs.YtknpolmenfdheaaDoor
