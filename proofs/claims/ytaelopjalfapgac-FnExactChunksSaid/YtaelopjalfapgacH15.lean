/-
  Chapter 6: a body out of its chunks; the program's side, whole.
-/
import Derived.Test.YtaelopjalfapgacH14
import Derived.Defers
import Derived.Recover
namespace Go.Proofs.Ytaelopjalfapgac
set_option linter.unusedVariables false
set_option linter.unusedSimpArgs false
open Go.RowKit
/-- How long a text is that a slot holds. -/
def lenOf (v : Value) : Nat :=
  match v with
  | .string s => s.size
  | _ => 0
theorem lenOf_string (s : ByteArray) : lenOf (.string s) = s.size := rfl
/-- What comes of a reader of a text. -/
def ckPost (X : Except Int ByteArray) (e : Ending) : Prop :=
  match X with
  | .ok b => e = .returned (.string b)
  | .error c => e = .panicked (gone c)
theorem size_app' (a b : ByteArray) : (a ++ b).size = a.size + b.size := by
  have : (a ++ b).data.toList = a.data.toList ++ b.data.toList := Go.Joins.data_append a b
  rw [← len_data, this, List.length_append, len_data, len_data]
set_option maxRecDepth 100000 in
set_option maxHeartbeats 16000000 in
theorem takenChunks_any (s : ByteArray) (w : World) (hs : s.size ≤ maxLen) (X : Except Int ByteArray) (hX : ckX s = X) :
    Calls Try.prog 22 #[.string s] w fun e w' => ckPost X e ∧ Below w.heap.size w w' := by
  have HB := hideB2 (below_a1 w (.cells #[.string s, .int .i64 0] 35))
  have A1 := hideB2 (Blk.new w #[.string s, .int .i64 0] 35)
  have HS := hideB2 hs
  have HX := hideB2 hX
  clear hs hX
  go_enter Try.func22, Try.ntmps22
  go_wp2
  generalize hW : w.alloc (.cells #[.string s, .int .i64 0] 35) = W1 at *
  clear hW
  go_loopw [3] (fun o wr => ∃ (n k : Nat) (body : ByteArray), k ≤ s.size ∧ Hid (601 ≤ n + body.size) ∧ body.size ≤ 600 ∧ o = .string body ∧ Hid (ckR s n k body = X) ∧ Blk wr w.heap.size #[.string s, .int .i64 (k : Int)] 35 ∧ Below w.heap.size w wr) (fun o _ => 601 - lenOf o)
  case atStart => exact ⟨601, 0, ⟨#[]⟩, Nat.zero_le _, (show 601 ≤ 601 + 0 by omega), Nat.zero_le _, rfl, HX.out, A1.out, HB.out⟩
  case round =>
    obtain ⟨n, k, body, hk, hn, hbo, rfl, hx, hb1, hbw⟩ := hrel
    clear A1 HB HX
    obtain ⟨m, rfl⟩ : ∃ m, n = m + 1 := ⟨n - 1, by have := hn.out; omega⟩
    have HB1 := hideB2 hb1
    have HBW := hideB2 hbw
    obtain ⟨p0, p1⟩ := hb1.c2
    clear hb1 hbw
    cases h1 : lnQ s k
    · have HC := hideB2 (fun W => chunkSize_bad1 s k W HS.out hk h1)
      obtain rfl : X = .error 400 := by rw [← hx.out]; exact ck_bad1 h1
      clear hx h1
      go_wp2_with (first
        | (go_at_call 35; refine (refuseIf_any _ _ _).mono ?_; rintro e w9 ⟨rfl, rfl⟩; simp only [refE])
        | (go_at_call 34; refine (HC.out _).mono ?_; rintro e w2 ⟨rfl, hb2⟩))
      exact ⟨rfl, show ckPost (.error 400) _ from rfl, below_then HBW.out hb2⟩
    · cases h2 : rhexOk (uptoS (lineAt s k))
      · have HC := hideB2 (fun W => chunkSize_bad2 s k W HS.out hk h1 h2)
        obtain rfl : X = .error 400 := by rw [← hx.out]; exact ck_bad2 h1 h2
        clear hx h1 h2
        go_wp2_with (first
          | (go_at_call 35; refine (refuseIf_any _ _ _).mono ?_; rintro e w9 ⟨rfl, rfl⟩; simp only [refE])
          | (go_at_call 34; refine (HC.out _).mono ?_; rintro e w2 ⟨rfl, hb2⟩))
        exact ⟨rfl, show ckPost (.error 400) _ from rfl, below_then HBW.out hb2⟩
      · have HC := hideB2 (fun W => chunkSize_ok s k W HS.out hk h1 h2)
        have hbd := rhexN_bd (uptoS (lineAt s k))
        have hE := tlE_ok hk (lnQ_iff.1 h1).1
        obtain ⟨z, hz⟩ := Int.eq_ofNat_of_zero_le hbd.1
        have K3 := hideB2 (fun h => ck_bad3 (s := s) (n := m) (k := k) (body := body) h1 h2 h)
        have K4 := hideB2 (fun h h' => ck_end (s := s) (n := m) (k := k) (body := body) h1 h2 h h')
        have K5 := hideB2 (fun h h3 h' => ck_bad4 (s := s) (n := m) (k := k) (z := z) (body := body) h1 h2 h hz h3 h')
        have K6 := hideB2 (fun h h3 h' => ck_next (s := s) (n := m) (k := k) (z := z) (body := body) h1 h2 h hz h3 h')
        have HT := hideB2 (fun W T hT => behindTrailer_any s (tlE s k + 2) W HS.out (by omega) T hT)
        have HDB := hideB2 (fun W h => chunkData_bad s (tlE s k + 2) z W HS.out (by omega) (by omega) h)
        have HDO := hideB2 (fun W h => chunkData_ok s (tlE s k + 2) z W HS.out (by omega) (by omega) h)
        rw [hz] at HC K3 K4 K5 K6 hbd
        rw [show ((tlE s k + 2 : Nat) : Int) = (tlE s k : Int) + 2 by omega] at HT HDB HDO
        clear h1 h2 hz
        generalize hEE : tlE s k + 2 = E2 at *
        have hE2 : (tlE s k : Int) + 2 = (E2 : Int) := by omega
        rw [hE2] at HC HT HDB HDO
        clear hEE hE2
        by_cases h3 : (600 : Int) < (body.size : Int) + (z : Int)
        · obtain rfl : X = .error 413 := by rw [← hx.out]; exact K3.out h3
          clear hx K3 K4 K5 K6 HT HDB HDO
          go_wp2_with (first
            | (go_at_call 35; refine (refuseIf_any _ _ _).mono ?_; rintro e w9 ⟨rfl, rfl⟩; simp only [refE])
            | (go_at_call 34; refine (HC.out _).mono ?_; rintro e w2 ⟨rfl, hb2⟩))
          exact ⟨rfl, show ckPost (.error 413) _ from rfl, below_then (below_then HBW.out hb2) (below_a1 _ _)⟩
        · have d3 : decide ((600 : Int) < (body.size : Int) + (z : Int)) = false := decide_eq_false h3
          clear K3
          by_cases hz0 : z = 0
          · subst hz0
            have d0 : decide ((600 : Int) < (body.size : Int)) = false := decide_eq_false (by omega)
            have HKE := hideB2 (hx.out.symm.trans (K4.out (by omega) rfl))
            clear K4 K5 K6 HDB HDO hx
            generalize hTT : trE s 21 E2 = T at *
            have HTT := hideB2 hTT
            clear hTT
            cases T with
            | none =>
              obtain rfl : X = .error 400 := by rw [HKE.out]; rfl
              go_wp2_with (first
                | (go_at_call 35; refine (refuseIf_any _ _ _).mono ?_; rintro e w9 ⟨rfl, rfl⟩; simp only [refE])
                | (go_at_call 34; refine (HC.out _).mono ?_; rintro e w2 ⟨rfl, hb2⟩)
                | (go_at_call 36; refine (HT.out _ _ rfl).mono ?_; rintro e w3 ⟨he, hb3⟩; replace he : e = .panicked (gone 400) := he; subst he))
              exact ⟨rfl, show ckPost (.error 400) _ from rfl, below_then (below_then (below_then HBW.out hb2) (below_a1 _ _)) hb3⟩
            | some q =>
              by_cases hq : q = s.size
              · subst hq
                obtain rfl : X = .ok body := by rw [HKE.out]; exact if_pos rfl
                have dq : decide ((0 : Int) < (s.size : Int) - (s.size : Int)) = false := decide_eq_false (by omega)
                clear HKE
                go_wp2_with (first
                  | (go_at_call 35; refine (refuseIf_any _ _ _).mono ?_; rintro e w9 ⟨rfl, rfl⟩; simp only [refE])
                  | (go_at_call 34; refine (HC.out _).mono ?_; rintro e w2 ⟨rfl, hb2⟩)
                  | (go_at_call 36; refine (HT.out _ _ rfl).mono ?_; rintro e w3 ⟨he, hb3⟩; replace he : e = .returned (.agg #[.string s, .int .i64 ((s.size : Nat) : Int)]) ∧ s.size ≤ s.size := he; obtain ⟨rfl, hqs⟩ := he)
                  | (go_at_call 37; refine (left_at s _ s.size _ rfl HS.out (Nat.le_refl _)).mono ?_; rintro e w4 ⟨rfl, hw4⟩))
                go_ret
                refine ⟨show ckPost (.ok body) _ from rfl, ?_⟩
                exact below_then (below_then (below_then (below_then HBW.out hb2) (below_a1 _ _)) hb3) (below_a1 _ _)
              · have hqn : ¬ (some q : Option Nat) = some s.size := fun h => hq (Option.some.inj h)
                obtain rfl : X = .error 400 := by rw [HKE.out]; exact if_neg hqn
                clear HKE hqn
                go_wp2_with (first
                  | (go_at_call 35; refine (refuseIf_any _ _ _).mono ?_; rintro e w9 ⟨rfl, rfl⟩; simp only [refE])
                  | (go_at_call 34; refine (HC.out _).mono ?_; rintro e w2 ⟨rfl, hb2⟩)
                  | (go_at_call 36; refine (HT.out _ _ rfl).mono ?_; rintro e w3 ⟨he, hb3⟩; replace he : e = .returned (.agg #[.string s, .int .i64 (q : Int)]) ∧ q ≤ s.size := he; obtain ⟨rfl, hqs⟩ := he; have hql : q < s.size := (by omega); have dq : decide ((0 : Int) < (s.size : Int) - (q : Int)) = true := decide_eq_true (by omega))
                  | (go_at_call 37; refine (left_at s _ q _ rfl HS.out hqs).mono ?_; rintro e w4 ⟨rfl, hw4⟩))

                refine ⟨rfl, show ckPost (.error 400) _ from rfl, ?_⟩
                exact below_then (below_then (below_then (below_then HBW.out hb2) (below_a1 _ _)) hb3) (below_a1 _ _)
          · have hz1 : ((z : Int) == 0) = false := beq_eq_false_iff_ne.2 (by omega)
            clear K4 HT
            cases hd : datQ s E2 z
            · have HD := hideB2 (fun W => HDB.out W hd)
              obtain rfl : X = .error 400 := by rw [← hx.out]; exact K5.out h3 hz0 hd
              clear K5 K6 HDB HDO hx hd
              go_wp2_with (first
                | (go_at_call 35; refine (refuseIf_any _ _ _).mono ?_; rintro e w9 ⟨rfl, rfl⟩; simp only [refE])
                | (go_at_call 34; refine (HC.out _).mono ?_; rintro e w2 ⟨rfl, hb2⟩)
                | (go_at_call 38; refine (HD.out _).mono ?_; rintro e w3 ⟨rfl, hb3⟩))
              exact ⟨rfl, show ckPost (.error 400) _ from rfl, below_then (below_then (below_then HBW.out hb2) (below_a1 _ _)) hb3⟩
            · have HD := hideB2 (fun W => HDO.out W hd)
              have hsz : E2 + z + 2 ≤ s.size := by
                unfold datQ at hd
                rw [Bool.and_eq_true, decide_eq_true_eq] at hd
                exact hd.1
              have HNX := hideB2 ((K6.out h3 hz0 hd).symm.trans hx.out)
              have hps : (s.extract E2 (E2 + z)).size = z := by rw [ByteArray.size_extract]; omega
              have HAP := hideB2 (size_app' body (s.extract E2 (E2 + z)))
              have HN := hn
              clear K5 K6 HDB HDO hx hd hn
              generalize s.extract E2 (E2 + z) = P at *
              have HPS := hideB2 hps
              have hps2 : P.size ≤ 600 := by omega
              clear hps
              go_wp2_with (first
                | (go_at_call 35; refine (refuseIf_any _ _ _).mono ?_; rintro e w9 ⟨rfl, rfl⟩; simp only [refE])
                | (go_at_call 34; refine (HC.out _).mono ?_; rintro e w2 ⟨rfl, hb2⟩)
                | (go_at_call 38; refine (HD.out _).mono ?_; rintro e w3 ⟨rfl, hb3⟩; have B3 := ((HB1.out.later hb2).alloc (.cells #[.string s, .int .i64 (E2 : Int)] 35)).later hb3; obtain ⟨x0, x1⟩ := B3.c2; have y0 := B3.free 0; have y1 := B3.free 1; have hlt3 := B3.lt))
              refine ⟨⟨m, E2 + z + 2, body ++ P, hsz, ?_, ?_, rfl, HNX.out, ?_, ?_⟩, ?_⟩
              · show 601 ≤ m + (body ++ P).size
                have h1 := HAP.out
                have h2 := HPS.out
                have h4 := HN.out
                omega
              · have h1 := HAP.out
                have h2 := HPS.out
                omega
              · rw [show ((E2 + z + 2 : Nat) : Int) = (E2 : Int) + ((z : Int) + 2) by omega]
                exact (B3.set2 _ _).alloc _
              · exact below_alloc' (below_set2 (g := w.heap.size) (below_then (below_then (below_then HBW.out hb2) (below_a1 _ _)) hb3) (Nat.le_refl _) _ _) (Nat.le_refl _) _
              · rw [lenOf_string, lenOf_string]
                have h1 := HAP.out
                have h2 := HPS.out
                omega
end Go.Proofs.Ytaelopjalfapgac
