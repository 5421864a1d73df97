/-
  Chapter 6: Chunks; the program's face.
-/
import Derived.Test.YtaelopjalfapgacH15
import Derived.Test.YtaelopjalfapgacH16
namespace Go.Proofs.Ytaelopjalfapgac
set_option linter.unusedVariables false
set_option linter.unusedSimpArgs false
open Go.RowKit
theorem Blk.c1 {w : World} {g : Nat} {x : Value} {t : TypeId} (h : Blk w g #[x] t) : w.cell? ⟨g, 0, none⟩ = some x := h.cell 0
theorem Blk.set1 {w : World} {g : Nat} {a : Value} {t : TypeId} (h : Blk w g #[a] t) (x : Value) : Blk (w.setCell ⟨g, 0, none⟩ x) g #[x] t := h.set 0 x
/-- What comes of a reader behind its closure. -/
def cbPost {α : Type} (X : Except Int α) (e : Ending) : Prop :=
  match X with
  | .ok _ => e = .returned (.tuple #[])
  | .error c => e = .panicked (gone c)
/-- Nothing that was there has turned but block gr. -/
def KB (gr : Nat) (w w' : World) : Prop := ∃ w2, Below w.heap.size w w2 ∧ (w' = w2 ∨ ∃ v, w' = w2.setCell ⟨gr, 0, none⟩ v)
theorem KB.blk {gr : Nat} {w w' : World} (h : KB gr w w') {b : Nat} {c : Array Value} {t : TypeId} (hb : Blk w b c t) (hne : gr ≠ b) : Blk w' b c t := by
  obtain ⟨w2, h1, rfl | ⟨v, rfl⟩⟩ := h
  · exact hb.later h1
  · exact (hb.later h1).other hne 0 v
theorem KB.below {gr : Nat} {w w' : World} (h : KB gr w w') {B : Nat} (h1 : B ≤ gr) (h2 : B ≤ w.heap.size) : Below B w w' := by
  obtain ⟨w2, h3, rfl | ⟨v, rfl⟩⟩ := h
  · exact h3.mono h2
  · exact (h3.mono h2).setCell (p := ⟨gr, 0, none⟩) h1 v
set_option maxHeartbeats 2000000 in
theorem chunksIn_any (s : ByteArray) (gb gr : Nat) (w : World) (hs : s.size ≤ maxLen) (X : Except Int ByteArray) (hX : ckX s = X) (hb : Blk w gb #[.string s] 9) (hr : Blk w gr #[.string ⟨#[]⟩] 9) :
    Calls Try.prog 21 #[.pointer (some ⟨gb, 0, none⟩), .pointer (some ⟨gr, 0, none⟩)] w fun e w' => cbPost X e ∧ Blk w' gr #[.string (exB X)] 9 ∧ KB gr w w' := by
  have HT := hideB2 (fun W => takenChunks_any s W hs X hX)
  have HR := hideB2 hr
  have p0 := hb.c1
  clear hX hb hr
  cases X with
  | ok b =>
    go_enter Try.func21, Try.ntmps21
    go_wp2_with fail
    refine (HT.out _).mono ?_
    rintro e w2 ⟨he, hb2⟩
    replace he : e = .returned (.string b) := he
    subst he
    have R2 := HR.out.later hb2
    have q0 := R2.c1
    have f0 := R2.free 0
    go_wp2
    go_end0
    exact ⟨show cbPost (.ok b) _ from rfl, R2.set1 _, w2, hb2, .inr ⟨_, rfl⟩⟩
  | error c =>
    go_enter Try.func21, Try.ntmps21
    go_wp2_with fail
    refine (HT.out _).mono ?_
    rintro e w2 ⟨he, hb2⟩
    replace he : e = .panicked (gone c) := he
    subst he
    go_wp2
    exact ⟨rfl, show cbPost (.error c) _ from rfl, HR.out.later hb2, w2, hb2, .inl rfl⟩
set_option maxHeartbeats 4000000 in
theorem caughtChunks_any (s : ByteArray) (gb gr B : Nat) (w : World) (hs : s.size ≤ maxLen) (X : Except Int ByteArray) (hX : ckX s = X) (hb : Blk w gb #[.string s] 9) (hr : Blk w gr #[.string ⟨#[]⟩] 9) (hB : B ≤ gr) (hB2 : B ≤ w.heap.size) :
    Calls Try.prog 20 #[.func (.func 21) #[] #[.pointer (some ⟨gb, 0, none⟩), .pointer (some ⟨gr, 0, none⟩)]] w fun e w' => e = .returned (.int .i64 (exC X)) ∧ Blk w' gr #[.string (exB X)] 9 ∧ Below B w w' := by
  have hmf : ∀ (fn : Fn) (first cap : Array Value) (w : World), (Instr.makeFunc fn first cap).run Try.prog w = .ok (.func fn first cap) w := fun _ _ _ _ => rfl
  have C1 := Blk.new w #[.int .i64 0] 3
  have HC := hideB2 (fun W h1 h2 => chunksIn_any s gb gr W hs X hX h1 h2)
  have hbl := hr.lt
  have hne : gr ≠ w.heap.size := by omega
  have hb1 := hb.alloc (.cells #[.int .i64 0] 3)
  have hr1 := hr.alloc (.cells #[.int .i64 0] 3)
  have hba := below_a1 w (.cells #[.int .i64 0] 3)
  have hBs : B ≤ (w.alloc (.cells #[.int .i64 0] 3)).heap.size := by simp; omega
  clear hX hb hr
  go_enter_defers Try.func20, Try.ntmps20
  go_wp2_with fail
  refine (HC.out _ hb1 hr1).mono ?_
  rintro e w2 ⟨he, hr2, hkb⟩
  have C2 := hkb.blk C1 hne
  have hB3 := (hba.mono hB2).trans (hkb.below hB hBs)
  have c0 := C2.c1
  have f0 := C2.free 0
  cases X with
  | ok b =>
    replace he : e = .returned (.tuple #[]) := he
    subst he
    have hr3 := hr2.other (Ne.symm hne) 0 (.int .i64 0)
    have hB4 := hB3.setCell (p := ⟨w.heap.size, 0, none⟩) hB2 (.int .i64 0)
    have c1 := (C2.set1 (.int .i64 0)).c1
    go_wp2
    refine leaves_cons (f := 33) (args := #[.pointer (some ⟨w.heap.size, 0, none⟩)]) (by simp) (by simp [go_sem]) ?_
    refine (catch_idle w.heap.size _).mono ?_
    rintro e u' w3 ⟨rfl, rfl, rfl⟩
    refine ⟨.int .i64 0, ?_, rfl, hr3, hB4⟩
    simp [settle, results, Try.results20, go_sem, c1]
  | error c =>
    replace he : e = .panicked (gone c) := he
    subst he
    have hr3 := hr2.other (Ne.symm hne) 0 (.int .i64 c)
    have hB4 := hB3.setCell (p := ⟨w.heap.size, 0, none⟩) hB2 (.int .i64 c)
    have c1 := (C2.set1 (.int .i64 c)).c1
    go_wp2
    refine leaves_cons (f := 33) (args := #[.pointer (some ⟨w.heap.size, 0, none⟩)]) (by simp) (by simp [go_sem]) ?_
    refine (catch_panicking w.heap.size 0 c _ c0 f0).mono ?_
    rintro e u' w3 ⟨rfl, rfl, rfl⟩
    refine ⟨.int .i64 c, ?_, rfl, hr3, hB4⟩
    simp [results, Try.results20, go_sem, c1]
set_option maxHeartbeats 4000000 in
theorem Chunks_any (s : ByteArray) (w : World) (hs : s.size ≤ maxLen) :
    Calls Try.prog 7 #[.string s] w fun e w' => e = .returned (.tuple #[.string (exB (ckX s)), .int .i64 (exC (ckX s))]) ∧ Below w.heap.size w w' := by
  have hmf : ∀ (fn : Fn) (first cap : Array Value) (w : World), (Instr.makeFunc fn first cap).run Try.prog w = .ok (.func fn first cap) w := fun _ _ _ _ => rfl
  have A1 := (Blk.new w #[.string s] 9).alloc (.cells #[.string ⟨#[]⟩] 9)
  have A2 : Blk ((w.alloc (.cells #[.string s] 9)).alloc (.cells #[.string ⟨#[]⟩] 9)) (w.heap.size + 1) #[.string ⟨#[]⟩] 9 := by
    have := Blk.new (w.alloc (.cells #[.string s] 9)) #[.string ⟨#[]⟩] 9
    simpa using this
  have hb0 := below_a2 w (.cells #[.string s] 9) (.cells #[.string ⟨#[]⟩] 9)
  generalize hX : ckX s = X
  have HC := hideB2 (caughtChunks_any s w.heap.size (w.heap.size + 1) w.heap.size _ hs X hX A1 A2 (by omega) hb0.size)
  have HB := hideB2 hb0
  clear hX A1 A2 hb0
  go_enter Try.func7, Try.ntmps7
  go_wp2_with fail
  refine HC.out.mono ?_
  rintro e w2 ⟨rfl, hr2, hb2⟩
  have c0 := hr2.c1
  have HB2 := hideB2 (HB.out.trans hb2)
  clear hr2 hb2
  go_wp2
  go_ret2
  exact ⟨rfl, HB2.out⟩
end Go.Proofs.Ytaelopjalfapgac
