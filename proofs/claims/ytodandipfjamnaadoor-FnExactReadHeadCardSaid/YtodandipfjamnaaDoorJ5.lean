/-
  Chapter 6: ReadHead; the program's face. · Digits in tens by the library's table, and how long they are. · Chapter 6: a message written; the program's side. · Chapter 6: a message's head and bytes; the program's side. · Chapter 6: of what kind a message is, its head and its bytes; the specification's side. · Chapter 6: the first line, of a request or an answer; the specification's side. · Chapter 6: the first line of an answer; the specification's side.
-/
import Derived.Test.YtodandipfjamnaaDoorJ4
import Derived.Test.YtodandipfjamnaaDoorJ3
import Derived.Test.YtodandipfjamnaaDoorJ1
import Derived.Deep.DeepCutAuto
import Derived.Test.YtodandipfjamnaaDoorJ2
import Derived.Deep.RegionHeld
namespace Go.Proofs.YtodandipfjamnaaDoor
set_option linter.unusedVariables false
set_option linter.unusedSimpArgs false
open Go.RowKit
theorem hdM_ok (h : Fl) (fs : List Fd) (m : Nat) : hdM (.ok (h, fs, m)) = ⟨h.1, h.2.1, h.2.2.1, h.2.2.2, false, fs, ⟨#[]⟩⟩ := rfl
set_option maxRecDepth 100000 in
set_option maxHeartbeats 4000000 in
theorem headIn_any (s : ByteArray) (answer : Bool) (gb ga gm gs : Nat) (w : World) (hs : s.size ≤ 1048576) (X : Except Int (Fl × List Fd × Nat)) (hX : hdX answer s = X) (hb : Blk w gb #[.string s] 9) (ha : Blk w ga #[.bool answer] 4) (hm : Blk w gm #[.string ⟨#[]⟩, .string ⟨#[]⟩, .int .i64 0, .string ⟨#[]⟩, .bool false, .slice none 0 0, .string ⟨#[]⟩] 24) (hz : Blk w gs #[.int .i64 0] 3) (hne : gm ≠ gs) :
    Calls Tryd.prog 14 #[.pointer (some ⟨gb, 0, none⟩), .pointer (some ⟨ga, 0, none⟩), .pointer (some ⟨gm, 0, none⟩), .pointer (some ⟨gs, 0, none⟩)] w fun e w' =>
      cbPost X e ∧ ∃ v, Blk w' gm (mgA (hdM X) v) 24 ∧ Blk w' gs #[.int .i64 (hdN X : Int)] 3 ∧ OwF w.heap.size w' v (hdM X).fs ∧ KB7 gm gs w w' := by
  have HT := hideB2 (fun W => takenHead_any s answer W hs X hX)
  have HM := hideB2 hm
  have HZ := hideB2 hz
  have p0 := hb.c1
  have q0 := ha.c1
  have hlm := hm.lt
  have hls := hz.lt
  clear hX hb ha hm hz
  cases X with
  | ok x =>
    obtain ⟨⟨a, b, n, r⟩, fs, m⟩ := x
    go_enter Tryd.func14, Tryd.ntmps14
    go_wp2_with fail
    refine (HT.out _).mono ?_
    rintro e w2 ⟨v, rfl, hbuf⟩
    obtain ⟨va, vc, rfl⟩ := hbuf.form
    have hb2 := hbuf.below
    have hown : OwF w.heap.size w2 (.slice va fs.length vc) fs := ⟨hbuf.own, hb2.size⟩
    have M2 := HM.out.later hb2
    have Z2 := HZ.out.later hb2
    obtain ⟨a0, a1, a2, a3, a4, a5, a6⟩ := M2.c7
    obtain ⟨f0, f1, f2, f3, f4, f5, f6⟩ := M2.f7
    have z0 := Z2.c1
    have z1 := Z2.free 0
    have hM3 := hideB2 ((M2.set7 (.string a) (.string b) (.int .i64 n) (.string r) (.bool false) (.slice va fs.length vc) (.string ⟨#[]⟩)).other (Ne.symm hne) 0 (.int .i64 (m : Int)))
    have hZ3 := hideB2 ((Z2.oth7 (g := gm) hne (.string a) (.string b) (.int .i64 n) (.string r) (.bool false) (.slice va fs.length vc) (.string ⟨#[]⟩)).set1 (.int .i64 (m : Int)))
    have hO3 := hideB2 ((hown.set7 (g := gm) hlm (.string a) (.string b) (.int .i64 n) (.string r) (.bool false) (.slice va fs.length vc) (.string ⟨#[]⟩)).set (g := gs) hls 0 (.int .i64 (m : Int)))
    have HB2 := hideB2 hb2
    clear hbuf hb2 hown M2 Z2
    go_wp2
    go_end0
    exact ⟨show cbPost (.ok _) _ from rfl, .slice va fs.length vc, hM3.out, hZ3.out, hO3.out, w2, HB2.out, .inr ⟨.string a, .string b, .int .i64 n, .string r, .bool false, .slice va fs.length vc, .string ⟨#[]⟩, .int .i64 (m : Int), rfl⟩⟩
  | error c =>
    go_enter Tryd.func14, Tryd.ntmps14
    go_wp2_with fail
    refine (HT.out _).mono ?_
    rintro e w2 ⟨he, hb2⟩
    subst he
    go_wp2
    exact ⟨rfl, show cbPost (.error c) _ from rfl, .slice none 0 0, HM.out.later hb2, HZ.out.later hb2, OwF.start hb2.size, w2, hb2, .inl rfl⟩
set_option maxRecDepth 100000 in
set_option maxHeartbeats 4000000 in
theorem caughtHead_any (s : ByteArray) (answer : Bool) (gb ga gm gs B : Nat) (w : World) (hs : s.size ≤ 1048576) (X : Except Int (Fl × List Fd × Nat)) (hX : hdX answer s = X) (hb : Blk w gb #[.string s] 9) (ha : Blk w ga #[.bool answer] 4) (hm : Blk w gm #[.string ⟨#[]⟩, .string ⟨#[]⟩, .int .i64 0, .string ⟨#[]⟩, .bool false, .slice none 0 0, .string ⟨#[]⟩] 24) (hz : Blk w gs #[.int .i64 0] 3) (hne : gm ≠ gs) (hB : B ≤ gm) (hB1 : B ≤ gs) (hB2 : B ≤ w.heap.size) :
    Calls Tryd.prog 13 #[.func (.func 14) #[] #[.pointer (some ⟨gb, 0, none⟩), .pointer (some ⟨ga, 0, none⟩), .pointer (some ⟨gm, 0, none⟩), .pointer (some ⟨gs, 0, none⟩)]] w fun e w' =>
      e = .returned (.int .i64 (exC X)) ∧ ∃ v, Blk w' gm (mgA (hdM X) v) 24 ∧ Blk w' gs #[.int .i64 (hdN X : Int)] 3 ∧ OwF (w.heap.size + 1) w' v (hdM X).fs ∧ Below B w w' ∧ (∀ b c t, Blk w b c t → gm ≠ b → gs ≠ b → Blk w' b c t) := by
  have hmf : ∀ (fn : Fn) (first cap : Array Value) (w : World), (Instr.makeFunc fn first cap).run Tryd.prog w = .ok (.func fn first cap) w := fun _ _ _ _ => rfl
  have C1 := Blk.new w #[.int .i64 0] 3
  have hne1 : gm ≠ w.heap.size := by have := hm.lt; omega
  have hne2 : gs ≠ w.heap.size := by have := hz.lt; omega
  have HC := hideB2 (headIn_any s answer gb ga gm gs (w.alloc (.cells #[.int .i64 0] 3)) hs X hX (hb.alloc _) (ha.alloc _) (hm.alloc _) (hz.alloc _) hne)
  have hba := below_a1 w (.cells #[.int .i64 0] 3)
  have hkeep : ∀ b c t, Blk w b c t → w.heap.size ≠ b ∧ Blk (w.alloc (.cells #[.int .i64 0] 3)) b c t := fun b c t h => ⟨by have := h.lt; omega, h.alloc _⟩
  have HKP := hideB2 hkeep
  clear hkeep
  have hsz : (w.alloc (.cells #[.int .i64 0] 3)).heap.size = w.heap.size + 1 := by simp
  have hBs : B ≤ (w.alloc (.cells #[.int .i64 0] 3)).heap.size := by omega
  rw [hsz] at HC
  clear hX hb ha hm hz
  go_enter_defers Tryd.func13, Tryd.ntmps13
  go_wp2_with fail
  refine HC.out.mono ?_
  rintro e w2 ⟨he, v, hm2, hz2, ho2, hkb⟩
  have C2 := hkb.blk C1 hne1 hne2
  have hB3 := (hba.mono hB2).trans (hkb.below hB hB1 hBs)
  have c0 := C2.c1
  have f0 := C2.free 0
  have hlt : w.heap.size < w.heap.size + 1 := by omega
  cases X with
  | ok b =>
    replace he : e = .returned (.tuple #[]) := he
    subst he
    have hm3 := hm2.other (Ne.symm hne1) 0 (.int .i64 0)
    have hz3 := hz2.other (Ne.symm hne2) 0 (.int .i64 0)
    have ho3 := ho2.set hlt 0 (.int .i64 0)
    have hB4 := hB3.setCell (p := ⟨w.heap.size, 0, none⟩) hB2 (.int .i64 0)
    have c1 := (C2.set1 (.int .i64 0)).c1
    go_wp2
    refine leaves_cons (f := 25) (args := #[.pointer (some ⟨w.heap.size, 0, none⟩)]) (by simp) (by simp [go_sem]) ?_
    refine (catch_idle w.heap.size _).mono ?_
    rintro e u' w3 ⟨rfl, rfl, rfl⟩
    refine ⟨.int .i64 0, ?_, rfl, v, hm3, hz3, ho3, hB4, fun b c t h h1 h2 => (hkb.blk (HKP.out b c t h).2 h1 h2).other (HKP.out b c t h).1 0 _⟩
    simp [settle, results, Tryd.results13, go_sem, c1]
  | error c =>
    replace he : e = .panicked (gone c) := he
    subst he
    have hm3 := hm2.other (Ne.symm hne1) 0 (.int .i64 c)
    have hz3 := hz2.other (Ne.symm hne2) 0 (.int .i64 c)
    have ho3 := ho2.set hlt 0 (.int .i64 c)
    have hB4 := hB3.setCell (p := ⟨w.heap.size, 0, none⟩) hB2 (.int .i64 c)
    have c1 := (C2.set1 (.int .i64 c)).c1
    go_wp2
    refine leaves_cons (f := 25) (args := #[.pointer (some ⟨w.heap.size, 0, none⟩)]) (by simp) (by simp [go_sem]) ?_
    refine (catch_panicking w.heap.size 0 c _ c0 f0).mono ?_
    rintro e u' w3 ⟨rfl, rfl, rfl⟩
    refine ⟨.int .i64 c, ?_, rfl, v, hm3, hz3, ho3, hB4, fun b c t h h1 h2 => (hkb.blk (HKP.out b c t h).2 h1 h2).other (HKP.out b c t h).1 0 _⟩
    simp [results, Tryd.results13, go_sem, c1]
set_option maxRecDepth 100000 in
set_option maxHeartbeats 4000000 in
theorem ReadHead_any (s : ByteArray) (answer : Bool) (w : World) (hs : s.size ≤ 1048576) :
    Calls Tryd.prog 5 #[.string s, .bool answer] w fun e w' => ∃ v, e = .returned (.tuple #[mgV (hdM (hdX answer s)) v, .int .i64 (hdN (hdX answer s) : Int), .int .i64 (exC (hdX answer s))]) ∧ BufF w w' v (hdM (hdX answer s)).fs := by
  have hmf : ∀ (fn : Fn) (first cap : Array Value) (w : World), (Instr.makeFunc fn first cap).run Tryd.prog w = .ok (.func fn first cap) w := fun _ _ _ _ => rfl
  have o0_0 : Blk (w.alloc (.cells #[.string s] 9)) (w.heap.size) #[.string s] 9 := Blk.new w _ _
  have b1 := below_a1 w (.cells #[.string s] 9)
  generalize hW1 : w.alloc (.cells #[.string s] 9) = W1 at *
  have n1 : W1.heap.size = w.heap.size + 1 := by rw [← hW1]; simp
  have o1_1 : Blk (W1.alloc (.cells #[.bool answer] 4)) (w.heap.size + 1) #[.bool answer] 4 := by rw [← n1]; exact Blk.new W1 _ _
  have o0_1 := o0_0.alloc (.cells #[.bool answer] 4)
  have b2 := below_then b1 (below_a1 W1 (.cells #[.bool answer] 4))
  generalize hW2 : W1.alloc (.cells #[.bool answer] 4) = W2 at *
  have n2 : W2.heap.size = w.heap.size + 1 + 1 := by rw [← hW2]; simp [n1]
  have o2_2 : Blk (W2.alloc (.cells #[.string ⟨#[]⟩, .string ⟨#[]⟩, .int .i64 0, .string ⟨#[]⟩, .bool false, .slice none 0 0, .string ⟨#[]⟩] 24)) (w.heap.size + 1 + 1) #[.string ⟨#[]⟩, .string ⟨#[]⟩, .int .i64 0, .string ⟨#[]⟩, .bool false, .slice none 0 0, .string ⟨#[]⟩] 24 := by rw [← n2]; exact Blk.new W2 _ _
  have o0_2 := o0_1.alloc (.cells #[.string ⟨#[]⟩, .string ⟨#[]⟩, .int .i64 0, .string ⟨#[]⟩, .bool false, .slice none 0 0, .string ⟨#[]⟩] 24)
  have o1_2 := o1_1.alloc (.cells #[.string ⟨#[]⟩, .string ⟨#[]⟩, .int .i64 0, .string ⟨#[]⟩, .bool false, .slice none 0 0, .string ⟨#[]⟩] 24)
  have b3 := below_then b2 (below_a1 W2 (.cells #[.string ⟨#[]⟩, .string ⟨#[]⟩, .int .i64 0, .string ⟨#[]⟩, .bool false, .slice none 0 0, .string ⟨#[]⟩] 24))
  generalize hW3 : W2.alloc (.cells #[.string ⟨#[]⟩, .string ⟨#[]⟩, .int .i64 0, .string ⟨#[]⟩, .bool false, .slice none 0 0, .string ⟨#[]⟩] 24) = W3 at *
  have n3 : W3.heap.size = w.heap.size + 1 + 1 + 1 := by rw [← hW3]; simp [n2]
  have o3_3 : Blk (W3.alloc (.cells #[.string ⟨#[]⟩, .string ⟨#[]⟩, .int .i64 0, .string ⟨#[]⟩, .bool false, .slice none 0 0, .string ⟨#[]⟩] 24)) (w.heap.size + 1 + 1 + 1) #[.string ⟨#[]⟩, .string ⟨#[]⟩, .int .i64 0, .string ⟨#[]⟩, .bool false, .slice none 0 0, .string ⟨#[]⟩] 24 := by rw [← n3]; exact Blk.new W3 _ _
  have o0_3 := o0_2.alloc (.cells #[.string ⟨#[]⟩, .string ⟨#[]⟩, .int .i64 0, .string ⟨#[]⟩, .bool false, .slice none 0 0, .string ⟨#[]⟩] 24)
  have o1_3 := o1_2.alloc (.cells #[.string ⟨#[]⟩, .string ⟨#[]⟩, .int .i64 0, .string ⟨#[]⟩, .bool false, .slice none 0 0, .string ⟨#[]⟩] 24)
  have o2_3 := o2_2.alloc (.cells #[.string ⟨#[]⟩, .string ⟨#[]⟩, .int .i64 0, .string ⟨#[]⟩, .bool false, .slice none 0 0, .string ⟨#[]⟩] 24)
  have b4 := below_then b3 (below_a1 W3 (.cells #[.string ⟨#[]⟩, .string ⟨#[]⟩, .int .i64 0, .string ⟨#[]⟩, .bool false, .slice none 0 0, .string ⟨#[]⟩] 24))
  generalize hW4 : W3.alloc (.cells #[.string ⟨#[]⟩, .string ⟨#[]⟩, .int .i64 0, .string ⟨#[]⟩, .bool false, .slice none 0 0, .string ⟨#[]⟩] 24) = W4 at *
  have n4 : W4.heap.size = w.heap.size + 1 + 1 + 1 + 1 := by rw [← hW4]; simp [n3]
  have o4_4 : Blk (W4.alloc (.cells #[.int .i64 0] 3)) (w.heap.size + 1 + 1 + 1 + 1) #[.int .i64 0] 3 := by rw [← n4]; exact Blk.new W4 _ _
  have o0_4 := o0_3.alloc (.cells #[.int .i64 0] 3)
  have o1_4 := o1_3.alloc (.cells #[.int .i64 0] 3)
  have o2_4 := o2_3.alloc (.cells #[.int .i64 0] 3)
  have o3_4 := o3_3.alloc (.cells #[.int .i64 0] 3)
  have b5 := below_then b4 (below_a1 W4 (.cells #[.int .i64 0] 3))
  generalize hW5 : W4.alloc (.cells #[.int .i64 0] 3) = W5 at *
  have n5 : W5.heap.size = w.heap.size + 1 + 1 + 1 + 1 + 1 := by rw [← hW5]; simp [n4]
  generalize hX : hdX answer s = X
  have HC := hideB2 (caughtHead_any s answer (w.heap.size) (w.heap.size + 1) (w.heap.size + 1 + 1 + 1) (w.heap.size + 1 + 1 + 1 + 1) w.heap.size W5 hs X hX o0_4 o1_4 o3_4 o4_4 (by omega) (by omega) (by omega) b5.size)
  rw [n5] at HC
  have HR := hideB2 o2_4
  have HB5 := hideB2 b5
  subst hW5
  subst hW4
  subst hW3
  subst hW2
  subst hW1
  clear o0_0 o0_1 o1_1 o0_2 o1_2 o2_2 o0_3 o1_3 o2_3 o3_3 o0_4 o1_4 o2_4 o3_4 o4_4 b1 b2 b3 b4 b5 n1 n2 n3 n4 n5 hX
  generalize hdM X = g at *
  generalize hdN X = N at *
  obtain ⟨me, ta, st, re, ba, fs, bo⟩ := g
  simp only [mgV, mgA] at HC ⊢
  go_enter Tryd.func5, Tryd.ntmps5
  go_wp2_with fail
  refine HC.out.mono ?_
  rintro e w6 ⟨rfl, v, hm6, hz6, ho6, hb6, hk6⟩
  obtain ⟨va, vc, rfl⟩ := ho6.form
  have hr6 := hk6 _ _ _ HR.out (by omega) (by omega)
  have HB6 := hideB2 (HB5.out.trans hb6)
  have HO6 := hideB2 ho6
  have HR6 := hideB2 hr6
  obtain ⟨p0, p1, p2, p3, p4, p5, p6⟩ := hm6.c7
  have z0 := hz6.c1
  obtain ⟨a0, a1, a2, a3, a4, a5, a6⟩ := hr6.c7
  obtain ⟨f0, f1, f2, f3, f4, f5, f6⟩ := hr6.f7
  clear hm6 hz6 ho6 hb6 hk6 hr6 HR HC HB5 hmf
  go_wp2
  go_big_region
  go_wp2
  have hA7 := hideB2 (HR6.out.set7 (.string me) (.string ta) (.int .i64 st) (.string re) (.bool ba) (.slice va fs.length vc) (.string bo)).drew
  have hO7 := hideB2 (((HO6.out.set7 (g := w.heap.size + 1 + 1) (by omega) (.string me) (.string ta) (.int .i64 st) (.string re) (.bool ba) (.slice va fs.length vc) (.string bo)).drew).buf (w0 := w) (by omega) (below_set7 HB6.out (show w.heap.size ≤ w.heap.size + 1 + 1 by omega) (.string me) (.string ta) (.int .i64 st) (.string re) (.bool ba) (.slice va fs.length vc) (.string bo)).drew)
  refine bodyPost_ret (results_cellTT rfl _ _ _ rfl hA7.out Tryd.underlying24 Tryd.infoMsg) rfl ⟨.slice va fs.length vc, ?_, hO7.out⟩
  rfl
end Go.Proofs.YtodandipfjamnaaDoor
namespace Go.Proofs.YtodandipfjamnaaDoor
set_option linter.unusedVariables false
set_option linter.unusedSimpArgs false
open Go.RowKit
abbrev Tab10 (w : World) : Prop := Lib.TabIs Tryd.prog w "internal/strconv.uint64pow10" .u64 Lib.pow10Tab
theorem decT_size (n : Int) : (decT n).size ≤ 15 := by
  unfold decT
  split
  · rename_i h
    have := decDigits_len n.toNat (by omega)
    show (Lib.decDigits n.toNat).toArray.size ≤ 15
    simpa using this
  · show (0 : Nat) ≤ 15; omega
theorem tab_later {w w' : World} (h : Tab10 w) (hb : Below w.heap.size w w') : Tab10 w' := by
  unfold Tab10 Lib.TabIs World.var? at *
  cases hg : Tryd.prog.globalNamed "internal/strconv.uint64pow10" with
  | none => rw [hg] at h; cases h
  | some g =>
    rw [hg] at h
    simp only [Option.bind_some] at h ⊢
    have hlt : g < w.heap.size := by
      rcases Nat.lt_or_ge g w.heap.size with h1 | h1
      · exact h1
      · rw [Array.getElem?_eq_none h1] at h; cases h
    rw [hb.block g hlt]; exact h
end Go.Proofs.YtodandipfjamnaaDoor
namespace Go.Proofs.YtodandipfjamnaaDoor
set_option linter.unusedVariables false
set_option linter.unusedSimpArgs false
open Go.RowKit
theorem unfr_next (l : List Fd) (k : Nat) (h : k < l.length) : unfrL (l.take (k + 1)) = unfrL (l.take k) ++ (if frmN (fdAt l k).1 = true then [] else [fdAt l k]) := by
  unfold unfrL
  rw [keepF_next l _ k h]
  cases frmN (fdAt l k).1 <;> simp
theorem eqB_cl {s : ByteArray} : eqB s clN = (s.toList == [99, 111, 110, 116, 101, 110, 116, 45, 108, 101, 110, 103, 116, 104]) := by unfold eqB; rw [ByteArray.toList_eq clN]; rfl
theorem eqB_te {s : ByteArray} : eqB s teN = (s.toList == [116, 114, 97, 110, 115, 102, 101, 114, 45, 101, 110, 99, 111, 100, 105, 110, 103]) := by unfold eqB; rw [ByteArray.toList_eq teN]; rfl
theorem eqB_tr {s : ByteArray} : eqB s trN = (s.toList == [116, 114, 97, 105, 108, 101, 114]) := by unfold eqB; rw [ByteArray.toList_eq trN]; rfl
theorem frmN_eq (d : ByteArray) : frmN d = ((foldB d).toList == [99, 111, 110, 116, 101, 110, 116, 45, 108, 101, 110, 103, 116, 104] || (foldB d).toList == [116, 114, 97, 110, 115, 102, 101, 114, 45, 101, 110, 99, 111, 100, 105, 110, 103] || (foldB d).toList == [116, 114, 97, 105, 108, 101, 114]) := by
  unfold frmN; rw [eqB_cl, eqB_te, eqB_tr]
/-- The first line, as bytes. -/
def firstB (m : Mg) : ByteArray := ⟨(firstL m).toArray⟩
theorem firstB_req {m : Mg} (h : eqB m.me ⟨#[]⟩ = false) : firstB m = m.me ++ ⟨#[32]⟩ ++ m.ta ++ ⟨#[32]⟩ ++ ⟨#[72, 84, 84, 80, 47, 49, 46, 49]⟩ := by
  apply bytes_ext
  simp [firstB, firstL, h, Go.Joins.data_append]
theorem firstB_ans {m : Mg} (h : eqB m.me ⟨#[]⟩ = true) : firstB m = ⟨#[72, 84, 84, 80, 47, 49, 46, 49, 32]⟩ ++ decT m.st ++ ⟨#[32]⟩ ++ m.re := by
  apply bytes_ext
  simp [firstB, firstL, h, Go.Joins.data_append]
theorem firstB_size {m : Mg} (h1 : m.me.size ≤ 1048576) (h2 : m.ta.size ≤ 1048576) (h3 : m.re.size ≤ 1048576) : (firstB m).size ≤ 2097200 := by
  have hd := decT_size m.st
  rw [← len_data] at hd h1 h2 h3
  show (firstL m).toArray.size ≤ _
  unfold firstL
  split
  · simp only [List.size_toArray, List.length_append, List.length_cons, List.length_nil]; omega
  · simp only [List.size_toArray, List.length_append, List.length_cons, List.length_nil]; omega
end Go.Proofs.YtodandipfjamnaaDoor
namespace Go.Proofs.YtodandipfjamnaaDoor
set_option linter.unusedVariables false
set_option linter.unusedSimpArgs false
open Go.RowKit
theorem dropWhile_none {α : Type} {p : α → Bool} : ∀ {l : List α}, (∀ x ∈ l, p x = false) → l.dropWhile p = l
  | [], _ => rfl
  | a :: l, h => by rw [List.dropWhile_cons_of_neg (by rw [h a (by simp)]; simp)]
theorem trimL_none {l : List UInt8} (h : ∀ x ∈ l, gap8 x = false) : trimL l = l := by
  unfold trimL
  rw [dropWhile_none h, dropWhile_none (fun x hx => h x (List.mem_reverse.1 hx)), List.reverse_reverse]
theorem dig_plain {b : UInt8} (h : dig8 b = true) : plain8 b = true ∧ gap8 b = false := by
  have h1 := (dig8_iff b).1 h
  constructor
  · unfold plain8 plainP
    have h2 : (32 : Int) ≤ (b.toNat : Int) := by omega
    have h3 : ((b.toNat : Int) != 127) = true := by rw [bne_iff_ne]; omega
    simp [h2, h3]
  · unfold gap8 gapP
    have h2 : ((b.toNat : Int) == 32) = false := beq_eq_false_iff_ne.2 (by omega)
    have h3 : ((b.toNat : Int) == 9) = false := beq_eq_false_iff_ne.2 (by omega)
    rw [h2, h3]; rfl
theorem decB_value {n : Nat} (h : n ≤ 999999999999999) : valQ (decB n) = true := by
  have hd := allDig_dec n
  unfold allDig at hd
  rw [List.all_eq_true] at hd
  have hl := decDigits_len n h
  rw [valQ_iff]
  refine ⟨?_, ?_, ?_⟩
  · show (Lib.decDigits n).toArray.size ≤ 190
    simp; omega
  · unfold plnB
    rw [List.all_eq_true]
    intro x hx
    exact (dig_plain (hd x hx)).1
  · apply bytes_ext
    show trimL (Lib.decDigits n) = Lib.decDigits n
    exact trimL_none fun x hx => (dig_plain (hd x hx)).2
theorem tok_clW : tokB clW = true := by kernel_rfl
theorem clW_field {n : Nat} (h : n ≤ 999999999999999) : fieldQ (clW, decB n) = true := by
  rw [fieldQ_iff]
  exact ⟨by show (14 : Nat) ≤ 40; omega, tok_clW, decB_value h⟩
theorem decT_nat {n : Nat} (h : n ≤ 999999999999999) : decT (n : Int) = decB n := by
  unfold decT; rw [if_pos ⟨by omega, by omega⟩, Int.toNat_natCast]
theorem lenL_yes {m : Mg} (h : tellsQ m = true) (hb : m.bo.size ≤ 1048576) : lenL m = (ftextB (clW, decT (m.bo.size : Int))).data.toList ++ [13, 10] := by
  unfold lenL
  rw [if_pos h, decT_nat (by omega)]
  unfold ftextB
  rw [if_pos (clW_field (by omega))]
  rfl
theorem lenL_no {m : Mg} (h : tellsQ m = false) : lenL m = [] := by unfold lenL; rw [h]; rfl
/-- What is written ahead of field k. -/
def preB (m : Mg) (k : Nat) : ByteArray := ⟨(firstL m ++ [13, 10] ++ linesL (m.fs.take k)).toArray⟩
theorem preB_zero (m : Mg) : preB m 0 = firstB m ++ ⟨#[13, 10]⟩ := by
  apply bytes_ext
  simp [preB, firstB, linesL, Go.Joins.data_append]
theorem preB_next (m : Mg) (k : Nat) (h : k < m.fs.length) : preB m (k + 1) = preB m k ++ (ftextB (fdAt m.fs k) ++ ⟨#[13, 10]⟩) := by
  apply bytes_ext
  simp [preB, linesL_next m.fs k h, Go.Joins.data_append]
theorem preB_size {m : Mg} (h1 : m.me.size ≤ 1048576) (h2 : m.ta.size ≤ 1048576) (h3 : m.re.size ≤ 1048576) (hl : m.fs.length ≤ 20) (k : Nat) : (preB m k).size ≤ 2200000 := by
  have hf := firstB_size h1 h2 h3
  have hf' : (firstL m).length ≤ 2097200 := by
    have : (firstB m).size = (firstL m).length := by show (firstL m).toArray.size = _; simp
    omega
  have hk := linesL_len (m.fs.take k)
  have hk2 : (m.fs.take k).length ≤ 20 := by rw [List.length_take]; omega
  show (firstL m ++ [13, 10] ++ linesL (m.fs.take k)).toArray.size ≤ _
  simp only [List.size_toArray, List.length_append, List.length_cons, List.length_nil]
  omega
theorem headB_yes {m : Mg} (h : tellsQ m = true) (hb : m.bo.size ≤ 1048576) : headB m = preB m m.fs.length ++ (ftextB (clW, decT (m.bo.size : Int)) ++ ⟨#[13, 10]⟩) ++ ⟨#[13, 10]⟩ := by
  apply bytes_ext
  simp [headB, headL, preB, lenL_yes h hb, Go.Joins.data_append]
theorem headB_no {m : Mg} (h : tellsQ m = false) : headB m = preB m m.fs.length ++ ⟨#[13, 10]⟩ := by
  apply bytes_ext
  simp [headB, headL, preB, lenL_no h, Go.Joins.data_append]
theorem msgQ_no1 {m : Mg} (h : ownQ m.fs = false) : msgQ m = false := by unfold msgQ; rw [h]; rfl
theorem msgQ_no2 {m : Mg} (h : ¬ (m.bo.size : Int) ≤ 600) : msgQ m = false := by unfold msgQ; rw [decide_eq_false h]; simp
theorem msgQ_no3 {m : Mg} (h : kindQ m = false) : msgQ m = false := by unfold msgQ; rw [h]; simp
theorem msgQ_yes {m : Mg} (h1 : ownQ m.fs = true) (h2 : (m.bo.size : Int) ≤ 600) (h3 : kindQ m = true) : msgQ m = decide (((headB m).size : Int) ≤ 1500) := by
  unfold msgQ; rw [h1, decide_eq_true h2, h3]; rfl
theorem headB_small {m : Mg} (h1 : m.me.size ≤ 1048576) (h2 : m.ta.size ≤ 1048576) (h3 : m.re.size ≤ 1048576) (hl : m.fs.length ≤ 20) (hb : m.bo.size ≤ 1048576) : (headB m).size ≤ 2300000 := by
  have hp := preB_size h1 h2 h3 hl m.fs.length
  have hp' : (firstL m ++ [13, 10] ++ linesL (m.fs.take m.fs.length)).toArray.size ≤ 2200000 := hp
  rw [List.take_length] at hp'
  simp only [List.size_toArray, List.length_append, List.length_cons, List.length_nil] at hp'
  have hlen : (lenL m).length ≤ 50 := by
    unfold lenL
    split
    · have hd := decDigits_len m.bo.size (by omega)
      have hc : clW.data.toList.length = 14 := rfl
      simp only [List.length_append, List.length_cons, List.length_nil, hc]; omega
    · simp
  rw [headB_size]
  unfold headL
  simp only [List.length_append, List.length_cons, List.length_nil]
  omega
theorem msgQ_sizes {m : Mg} (h : msgQ m = true) : fieldsQ m.fs = true ∧ m.bo.size ≤ 600 ∧ (headB m).size ≤ 1500 := by
  obtain ⟨h1, h2, _, h4⟩ := msgQ_iff.1 h
  exact ⟨(ownQ_iff.1 h1).1, h2, h4⟩
end Go.Proofs.YtodandipfjamnaaDoor
namespace Go.Proofs.YtodandipfjamnaaDoor
set_option linter.unusedVariables false
set_option linter.unusedSimpArgs false
open Go.RowKit

theorem reqQ_spec (m : Mg) : reqQ m = (decide ((m.me.size : Int) ≤ 20) && tokB m.me && decide ((m.ta.size : Int) ≤ 200) && (decide (0 < (m.ta.size : Int)) && allB vis8 m.ta) && (m.st == 0) && eqB m.re ⟨#[]⟩ && !m.ba) := by
  unfold reqQ methQ targQ
  rw [show decide (0 < (m.ta.size : Int)) = decide (1 ≤ (m.ta.size : Int)) from rfl]
  cases tokB m.me <;> cases decide ((m.me.size : Int) ≤ 20) <;> cases decide (1 ≤ (m.ta.size : Int)) <;> cases decide ((m.ta.size : Int) ≤ 200) <;> rfl
set_option maxHeartbeats 4000000 in
theorem l6request_any (me ta re bo : ByteArray) (st : Int) (ba : Bool) (fa : Option Addr) (fn fc : Nat) (fs : List Fd) (w : World) (hme : me.size ≤ maxLen) (hta : ta.size ≤ maxLen) :
    Calls Tryd.prog 22 #[.agg #[.string me, .string ta, .int .i64 st, .string re, .bool ba, .slice fa fn fc, .string bo]] w fun e w' => e = .returned (.bool (reqQ ⟨me, ta, st, re, ba, fs, bo⟩)) ∧ Below w.heap.size w w' := by
  have HB := hideB2 (below_a1 w (.cells #[.string me, .string ta, .int .i64 st, .string re, .bool ba, .slice fa fn fc, .string bo] 24))
  have hme' := hme
  have hta' := hta
  unfold maxLen at hme' hta'
  cases h1 : decide ((me.size : Int) ≤ 20)
  · skip
    rw [show reqQ ⟨me, ta, st, re, ba, fs, bo⟩ = false by rw [reqQ_spec]; simp only [h1, Bool.false_and]]
    go_enter Tryd.func22, Tryd.ntmps22
    go_wp2_with (first | (go_at_call 35; refine (sToken_any _ _ hme).mono ?_; rintro e w' ⟨rfl, rfl⟩; rw [h2]) | (go_at_call 36; refine (l6visible_any _ _ hta).mono ?_; rintro e w' ⟨rfl, rfl⟩; rw [h4]))
    go_ret
    exact ⟨rfl, HB.out⟩
  · cases h2 : tokB me
    · skip
      rw [show reqQ ⟨me, ta, st, re, ba, fs, bo⟩ = false by rw [reqQ_spec]; simp only [h2, Bool.false_and, Bool.and_false]]
      go_enter Tryd.func22, Tryd.ntmps22
      go_wp2_with (first | (go_at_call 35; refine (sToken_any _ _ hme).mono ?_; rintro e w' ⟨rfl, rfl⟩; rw [h2]) | (go_at_call 36; refine (l6visible_any _ _ hta).mono ?_; rintro e w' ⟨rfl, rfl⟩; rw [h4]))
      go_ret
      exact ⟨rfl, HB.out⟩
    · cases h3 : decide ((ta.size : Int) ≤ 200)
      · skip
        rw [show reqQ ⟨me, ta, st, re, ba, fs, bo⟩ = false by rw [reqQ_spec]; simp only [h3, Bool.false_and, Bool.and_false]]
        go_enter Tryd.func22, Tryd.ntmps22
        go_wp2_with (first | (go_at_call 35; refine (sToken_any _ _ hme).mono ?_; rintro e w' ⟨rfl, rfl⟩; rw [h2]) | (go_at_call 36; refine (l6visible_any _ _ hta).mono ?_; rintro e w' ⟨rfl, rfl⟩; rw [h4]))
        go_ret
        exact ⟨rfl, HB.out⟩
      · cases h4 : (decide (0 < (ta.size : Int)) && allB vis8 ta)
        · skip
          rw [show reqQ ⟨me, ta, st, re, ba, fs, bo⟩ = false by rw [reqQ_spec]; simp only [h4, Bool.false_and, Bool.and_false]]
          go_enter Tryd.func22, Tryd.ntmps22
          go_wp2_with (first | (go_at_call 35; refine (sToken_any _ _ hme).mono ?_; rintro e w' ⟨rfl, rfl⟩; rw [h2]) | (go_at_call 36; refine (l6visible_any _ _ hta).mono ?_; rintro e w' ⟨rfl, rfl⟩; rw [h4]))
          go_ret
          exact ⟨rfl, HB.out⟩
        · cases h5 : (st == 0)
          · skip
            rw [show reqQ ⟨me, ta, st, re, ba, fs, bo⟩ = false by rw [reqQ_spec]; simp only [h5, Bool.false_and, Bool.and_false]]
            go_enter Tryd.func22, Tryd.ntmps22
            go_wp2_with (first | (go_at_call 35; refine (sToken_any _ _ hme).mono ?_; rintro e w' ⟨rfl, rfl⟩; rw [h2]) | (go_at_call 36; refine (l6visible_any _ _ hta).mono ?_; rintro e w' ⟨rfl, rfl⟩; rw [h4]))
            go_ret
            exact ⟨rfl, HB.out⟩
          · cases h6 : eqB re ⟨#[]⟩
            · skip
              rw [show reqQ ⟨me, ta, st, re, ba, fs, bo⟩ = false by rw [reqQ_spec]; simp only [h6, Bool.false_and, Bool.and_false]]
              rw [eqB_nil] at h6
              go_enter Tryd.func22, Tryd.ntmps22
              go_wp2_with (first | (go_at_call 35; refine (sToken_any _ _ hme).mono ?_; rintro e w' ⟨rfl, rfl⟩; rw [h2]) | (go_at_call 36; refine (l6visible_any _ _ hta).mono ?_; rintro e w' ⟨rfl, rfl⟩; rw [h4]))
              go_ret
              exact ⟨rfl, HB.out⟩
            · skip
              rw [show reqQ ⟨me, ta, st, re, ba, fs, bo⟩ = !ba by rw [reqQ_spec]; simp only [h1, h2, h3, h4, h5, h6, Bool.true_and]]
              rw [eqB_nil] at h6
              go_enter Tryd.func22, Tryd.ntmps22
              go_wp2_with (first | (go_at_call 35; refine (sToken_any _ _ hme).mono ?_; rintro e w' ⟨rfl, rfl⟩; rw [h2]) | (go_at_call 36; refine (l6visible_any _ _ hta).mono ?_; rintro e w' ⟨rfl, rfl⟩; rw [h4]))
              go_ret
              exact ⟨rfl, HB.out⟩
end Go.Proofs.YtodandipfjamnaaDoor
namespace Go.Proofs.YtodandipfjamnaaDoor
set_option linter.unusedVariables false
set_option linter.unusedSimpArgs false
open Go.RowKit
theorem aheadN_of {s : ByteArray} {k : Nat} (hk : k ≤ s.size) (hall : ∀ j, j < k → at8 s j ≠ 32) (hend : k = s.size ∨ at8 s k = 32) : aheadN s = k := by
  unfold aheadN
  rcases idxW_cases s with h | ⟨i, h, hi⟩
  · rw [if_pos h]
    rcases hend with h1 | h1
    · exact h1.symm
    · rcases Nat.lt_or_ge k s.size with h2 | h2
      · exact absurd h1 (idxW_none h k h2)
      · omega
  · rw [if_neg (by omega), h, Int.toNat_natCast]
    obtain ⟨h1, h2, h3⟩ := idxW_some h
    rcases Nat.lt_trichotomy k i with h4 | h4 | h4
    · rcases hend with h5 | h5
      · omega
      · exact absurd h5 (h3 k h4)
    · exact h4.symm
    · exact absurd h2 (hall i h4)
theorem eqB_verW {s : ByteArray} : (s.toList == [32, 72, 84, 84, 80, 47, 49, 46, 49]) = decide (s = verW) := by
  have h : eqB s verW = (s.toList == [32, 72, 84, 84, 80, 47, 49, 46, 49]) := by unfold eqB; rw [ByteArray.toList_eq verW]; rfl
  rw [← h]
  cases hh : decide (s = verW)
  · have := of_decide_eq_false hh
    cases he : eqB s verW
    · rfl
    · exact absurd (eqB_iff.1 he) this
  · exact eqB_iff.2 (of_decide_eq_true hh)
theorem eqB_verV {s : ByteArray} : (s.toList == [72, 84, 84, 80, 47, 49, 46, 49, 32]) = decide (s = verV) := by
  have h : eqB s verV = (s.toList == [72, 84, 84, 80, 47, 49, 46, 49, 32]) := by unfold eqB; rw [ByteArray.toList_eq verV]; rfl
  rw [← h]
  cases hh : decide (s = verV)
  · have := of_decide_eq_false hh
    cases he : eqB s verV
    · rfl
    · exact absurd (eqB_iff.1 he) this
  · exact eqB_iff.2 (of_decide_eq_true hh)
/-- A first line, read: the parts and whether it is one. -/
def fsPost (X : Option Fl) (e : Ending) : Prop :=
  ∃ a b n r, e = .returned (.tuple #[.agg #[.string a, .string b, .int .i64 n, .string r, .bool false, .slice none 0 0, .string ⟨#[]⟩], .bool X.isSome]) ∧ ∀ x, X = some x → x = (a, b, n, r)
theorem rq_short {s : ByteArray} (h : ¬ aheadN s + 11 ≤ s.size) : rqO s = none := by unfold rqO; rw [if_neg (by intro h1; exact h h1.1)]
theorem rq_ver {s : ByteArray} (h : ¬ s.extract (s.size - 9) s.size = verW) : rqO s = none := by unfold rqO; rw [if_neg (by intro h1; exact h h1.2.1)]
theorem rq_no {s : ByteArray} (h : reqQ (rqM (s.extract 0 (aheadN s)) (s.extract (aheadN s + 1) (s.size - 9))) = false) : rqO s = none := by unfold rqO; rw [if_neg (by intro h1; rw [h] at h1; exact absurd h1.2.2 (by simp))]
theorem rq_yes {s : ByteArray} (h1 : aheadN s + 11 ≤ s.size) (h2 : s.extract (s.size - 9) s.size = verW) (h : reqQ (rqM (s.extract 0 (aheadN s)) (s.extract (aheadN s + 1) (s.size - 9))) = true) : rqO s = some (s.extract 0 (aheadN s), s.extract (aheadN s + 1) (s.size - 9)) := by unfold rqO; rw [if_pos ⟨h1, h2, h⟩]
set_option maxRecDepth 100000 in
set_option maxHeartbeats 4000000 in
theorem l6first_any (s : ByteArray) (w : World) (hs : s.size ≤ 1048576) :
    Calls Tryd.prog 11 #[.string s] w fun e w' => fsPost ((rqO s).map fun x => (x.1, x.2, 0, ⟨#[]⟩)) e ∧ Below w.heap.size w w' := by
  have HB := hideB2 (below_a1 w (.cells #[.string ⟨#[]⟩, .string ⟨#[]⟩, .int .i64 0, .string ⟨#[]⟩, .bool false, .slice none 0 0, .string ⟨#[]⟩] 24))
  have A1 := Blk.new w #[.string ⟨#[]⟩, .string ⟨#[]⟩, .int .i64 0, .string ⟨#[]⟩, .bool false, .slice none 0 0, .string ⟨#[]⟩] 24
  have HSH := hideB2 (fun h => rq_short (s := s) h)
  have HVR := hideB2 (fun h => rq_ver (s := s) h)
  have HNO := hideB2 (fun h => rq_no (s := s) h)
  have HYS := hideB2 (fun h1 h2 h => rq_yes (s := s) h1 h2 h)
  have HAH := hideB2 (fun k (hk : k ≤ s.size) h1 h2 => aheadN_of (s := s) (k := k) hk h1 h2)
  generalize rqO s = X at *
  generalize aheadN s = A at *
  go_enter Tryd.func11, Tryd.ntmps11
  go_wp2
  generalize hW : w.alloc (.cells #[.string ⟨#[]⟩, .string ⟨#[]⟩, .int .i64 0, .string ⟨#[]⟩, .bool false, .slice none 0 0, .string ⟨#[]⟩] 24) = W1 at *
  clear hW
  obtain ⟨a0, a1, a2, a3, a4, a5, a6⟩ := A1.c7
  obtain ⟨f0, f1, f2, f3, f4, f5, f6⟩ := A1.f7
  have HA := hideB2 A1
  have hlt0 := A1.lt
  clear A1
  go_loop [4] (fun i => ∃ k : Nat, k ≤ s.size ∧ i = .int .i64 k ∧ ∀ j, j < k → at8 s j ≠ 32) (fun i => s.size - (intOf i).toNat)
  case atStart => exact ⟨0, Nat.zero_le _, rfl, fun j hj => by omega⟩
  case round =>
    obtain ⟨k, hk, rfl, hall⟩ := hrel
    have Hall := hideB2 hall
    clear hall
    by_cases hgo : k < s.size ∧ at8 s k ≠ 32
    · obtain ⟨hlt, h32⟩ := hgo
      have hat : (s[k].toNat : Int) = ((at8 s k).toNat : Int) := by rw [at8_eq s k hlt]
      have g32 : ((s[k].toNat : Int) != 32) = true := by
        have : ¬ (at8 s k).toNat = 32 := fun h => h32 (UInt8.toNat_inj.1 h)
        rw [hat]; simp; omega
      have Hn := hideB2 h32
      clear hat h32
      go_wp2
      go_round
      case rel => exact ⟨k + 1, by omega, by go_num, fun j hj => by
        rcases Nat.lt_or_ge j k with h | h
        · exact Hall.out j h
        · obtain rfl : j = k := by omega
          exact Hn.out⟩
      case measure => simp [intOf]; omega
    · have hA : A = k := HAH.out k hk Hall.out (by
        rcases Nat.lt_or_ge k s.size with h | h
        · right
          by_cases h2 : at8 s k = 32
          · exact h2
          · exact absurd ⟨h, h2⟩ hgo
        · left; omega)
      subst hA
      clear Hall HAH
      by_cases hsh : (s.size : Int) < (A : Int) + 11
      · obtain rfl : X = none := HSH.out (by omega)
        clear HSH HVR HNO HYS
        have hz7 := HA.out.set7 (.string ⟨#[]⟩) (.string ⟨#[]⟩) (.int .i64 0) (.string ⟨#[]⟩) (.bool false) (.slice none 0 0) (.string ⟨#[]⟩)
        have hb7 := below_set7 HB.out (Nat.le_refl _) (.string ⟨#[]⟩) (.string ⟨#[]⟩) (.int .i64 0) (.string ⟨#[]⟩) (.bool false) (.slice none 0 0) (.string ⟨#[]⟩)
        by_cases hlt : A < s.size
        · have g32 : ((s[A].toNat : Int) != 32) = false := by
            have h2 : at8 s A = 32 := by
              by_cases h2 : at8 s A = 32
              · exact h2
              · exact absurd ⟨hlt, h2⟩ hgo
            have hat : s[A] = at8 s A := at8_eq s A hlt
            rw [hat, h2]; rfl
          clear hgo
          go_wp2
          refine bodyPost_ret (results_cellT rfl _ _ _ rfl hz7 Tryd.underlying24 Tryd.infoMsg) rfl ⟨⟨⟨#[]⟩, ⟨#[]⟩, 0, ⟨#[]⟩, rfl, fun x hx => by cases hx⟩, hb7⟩
        · clear hgo
          go_wp2
          refine bodyPost_ret (results_cellT rfl _ _ _ rfl hz7 Tryd.underlying24 Tryd.infoMsg) rfl ⟨⟨⟨#[]⟩, ⟨#[]⟩, 0, ⟨#[]⟩, rfl, fun x hx => by cases hx⟩, hb7⟩
      · have dsh : decide ((s.size : Int) < (A : Int) + 11) = false := decide_eq_false hsh
        have hlt : A < s.size := by omega
        have g32 : ((s[A].toNat : Int) != 32) = false := by
          have h2 : at8 s A = 32 := by
            by_cases h2 : at8 s A = 32
            · exact h2
            · exact absurd ⟨hlt, h2⟩ hgo
          have hat : s[A] = at8 s A := at8_eq s A hlt
          rw [hat, h2]; rfl
        have hev := eqB_verW (s := s.extract (s.size - 9) s.size)
        have h9 : (s.size : Int) - 9 = ((s.size - 9 : Nat) : Int) := by omega
        have h9' : s.size - 9 ≤ s.size := by omega
        have h9a : A + 1 ≤ s.size - 9 := by omega
        clear hgo
        by_cases hv : s.extract (s.size - 9) s.size = verW
        · rw [decide_eq_true hv] at hev
          have HX : Hid (X = if reqQ (rqM (s.extract 0 A) (s.extract (A + 1) (s.size - 9))) = true then some (s.extract 0 A, s.extract (A + 1) (s.size - 9)) else none) := by
            show X = _
            cases hq : reqQ (rqM (s.extract 0 A) (s.extract (A + 1) (s.size - 9)))
            · rw [if_neg (by simp)]; exact HNO.out hq
            · rw [if_pos rfl]; exact HYS.out (by omega) hv hq
          have HQ := hideB2 (fun W => l6request_any (s.extract 0 A) (s.extract (A + 1) (s.size - 9)) ⟨#[]⟩ ⟨#[]⟩ 0 false none 0 0 [] W (by rw [ByteArray.size_extract]; unfold maxLen; omega) (by rw [ByteArray.size_extract]; unfold maxLen; omega))
          clear HSH HVR HNO HYS hv
          go_wp2
          clear hev g32 dsh
          go_big_region
          generalize s.extract 0 A = me at *
          generalize s.extract (A + 1) (s.size - 9) = ta at *
          have hal := below_a1 W1 (.cells #[.string me, .string ta, .int .i64 0, .string ⟨#[]⟩, .bool false, .slice none 0 0, .string ⟨#[]⟩] 24)
          have M2 := (Blk.new W1 #[.string me, .string ta, .int .i64 0, .string ⟨#[]⟩, .bool false, .slice none 0 0, .string ⟨#[]⟩] 24).drew
          have A2 := (HA.out.alloc (.cells #[.string me, .string ta, .int .i64 0, .string ⟨#[]⟩, .bool false, .slice none 0 0, .string ⟨#[]⟩] 24)).drew
          have HB2 := hideB2 (below_then HB.out hal).drew
          go_wp2
          generalize hW : World.drew _ = W2 at *
          clear hW hal HA HB a0 a1 a2 a3 a4 a5 a6 f0 f1 f2 f3 f4 f5 f6 h9 h9' h9a hsh
          generalize W1.heap.size = G at *
          obtain ⟨p0, p1, p2, p3, p4, p5, p6⟩ := M2.c7
          obtain ⟨a0, a1, a2, a3, a4, a5, a6⟩ := A2.c7
          obtain ⟨f0, f1, f2, f3, f4, f5, f6⟩ := A2.f7
          have HM2 := hideB2 M2
          have HA2 := hideB2 A2
          clear M2 A2
          have HFS : Hid (∀ e, e = .returned (.tuple #[.agg #[.string me, .string ta, .int .i64 0, .string ⟨#[]⟩, .bool false, .slice none 0 0, .string ⟨#[]⟩], .bool (reqQ ⟨me, ta, 0, ⟨#[]⟩, false, [], ⟨#[]⟩⟩)]) → fsPost (X.map fun x => (x.1, x.2, 0, ⟨#[]⟩)) e) := by
            show ∀ e, _ → _
            intro e he
            have hx := HX.out
            rw [show reqQ (⟨me, ta, 0, ⟨#[]⟩, false, [], ⟨#[]⟩⟩ : Mg) = reqQ (rqM me ta) from rfl] at he
            cases hq : reqQ (rqM me ta)
            · rw [hq] at hx he
              rw [if_neg (by simp)] at hx
              subst hx
              exact ⟨me, ta, 0, ⟨#[]⟩, he, fun x h => by cases h⟩
            · rw [hq] at hx he
              rw [if_pos rfl] at hx
              subst hx
              exact ⟨me, ta, 0, ⟨#[]⟩, he, fun x h => by cases h; rfl⟩
          go_region_with (go_at_call 22; refine (HQ.out _).mono ?_; rintro e w3 ⟨rfl, hb3⟩; (first | (have hM3 := HM2.out.drew.later hb3; have hA3 := HA2.out.drew.later hb3; obtain ⟨u0, u1, u2, u3, u4, u5, u6⟩ := hM3.c7; obtain ⟨v0, v1, v2, v3, v4, v5, v6⟩ := hA3.c7; obtain ⟨g0, g1, g2, g3, g4, g5, g6⟩ := hA3.f7) | skip))
          all_goals
            go_wp2_with fail
            first
              | exact bodyPost_ret (results_cellT rfl _ _ _ rfl ((HA2.out.drew.later hb3).set7 (.string me) (.string ta) (.int .i64 0) (.string ⟨#[]⟩) (.bool false) (.slice none 0 0) (.string ⟨#[]⟩)) Tryd.underlying24 Tryd.infoMsg) rfl ⟨HFS.out _ rfl, below_set7 (below_then HB2.out.drew hb3) (Nat.le_refl _) (.string me) (.string ta) (.int .i64 0) (.string ⟨#[]⟩) (.bool false) (.slice none 0 0) (.string ⟨#[]⟩)⟩
              | exact bodyPost_ret (results_cellT rfl _ _ _ rfl ((HA2.out.drew.set7 (.string me) (.string ta) (.int .i64 0) (.string ⟨#[]⟩) (.bool false) (.slice none 0 0) (.string ⟨#[]⟩)).later hb3) Tryd.underlying24 Tryd.infoMsg) rfl ⟨HFS.out _ rfl, below_then (below_set7 HB2.out.drew (Nat.le_refl _) (.string me) (.string ta) (.int .i64 0) (.string ⟨#[]⟩) (.bool false) (.slice none 0 0) (.string ⟨#[]⟩)) hb3⟩
        · rw [decide_eq_false hv] at hev
          obtain rfl : X = none := HVR.out hv
          clear HSH HVR HNO HYS
          have hz7 := HA.out.set7 (.string ⟨#[]⟩) (.string ⟨#[]⟩) (.int .i64 0) (.string ⟨#[]⟩) (.bool false) (.slice none 0 0) (.string ⟨#[]⟩)
          have hb7 := below_set7 HB.out (Nat.le_refl _) (.string ⟨#[]⟩) (.string ⟨#[]⟩) (.int .i64 0) (.string ⟨#[]⟩) (.bool false) (.slice none 0 0) (.string ⟨#[]⟩)
          go_wp2
          refine bodyPost_ret (results_cellT rfl _ _ _ rfl hz7 Tryd.underlying24 Tryd.infoMsg) rfl ⟨⟨⟨#[]⟩, ⟨#[]⟩, 0, ⟨#[]⟩, rfl, fun x hx => by cases hx⟩, hb7⟩
end Go.Proofs.YtodandipfjamnaaDoor
namespace Go.Proofs.YtodandipfjamnaaDoor
set_option linter.unusedVariables false
set_option linter.unusedSimpArgs false
open Go.RowKit
theorem an_short {s : ByteArray} (h : ¬ 13 ≤ s.size) : anO s = none := by unfold anO; rw [if_neg (by intro h1; exact h h1.1)]
theorem an_ver {s : ByteArray} (h : ¬ s.extract 0 9 = verV) : anO s = none := by unfold anO; rw [if_neg (by intro h1; exact h h1.2.1)]
theorem an_bl {s : ByteArray} (h : ¬ at8 s 12 = 32) : anO s = none := by unfold anO; rw [if_neg (by intro h1; exact h h1.2.2.1)]
theorem no_fl {x y : Fl} (hx : (none : Option Fl) = some x) : x = y := by cases hx
/-- May a status and a reason stand in an answer's line? -/
def stsQ (o : Bool) (n : Int) (r : ByteArray) : Bool := o && decide (200 ≤ n) && decide (n ≤ 599) && decide ((r.size : Int) ≤ 40) && plnB r
theorem ans_sts (n : Int) (r : ByteArray) : ansQ (anM n r) = stsQ true n r := by
  unfold ansQ stsQ stQ anM
  simp only [Bool.true_and]
  rw [show eqB (⟨#[]⟩ : ByteArray) ⟨#[]⟩ = true from eqB_iff.2 rfl]
  simp
theorem an_go {s : ByteArray} (h1 : 13 ≤ s.size) (h2 : s.extract 0 9 = verV) (h3 : at8 s 12 = 32) : anO s = if stsQ (rdecOk (s.extract 9 12)) (rdecN (s.extract 9 12)) (s.extract 13 s.size) = true then some (rdecN (s.extract 9 12), s.extract 13 s.size) else none := by
  unfold anO
  rw [ans_sts]
  cases ho : rdecOk (s.extract 9 12)
  · rw [if_neg (by intro h; exact absurd h.2.2.2.1 (by simp)), if_neg (by unfold stsQ; simp)]
  · cases hq : stsQ true (rdecN (s.extract 9 12)) (s.extract 13 s.size)
    · rw [if_neg (by intro h; exact absurd h.2.2.2.2 (by simp)), if_neg (by simp)]
    · rw [if_pos ⟨h1, h2, h3, rfl, rfl⟩, if_pos rfl]
set_option maxRecDepth 100000 in
set_option maxHeartbeats 4000000 in
theorem l6status_any (s : ByteArray) (w : World) (hs : s.size ≤ 1048576) :
    Calls Tryd.prog 10 #[.string s] w fun e w' => fsPost ((anO s).map fun x => (⟨#[]⟩, ⟨#[]⟩, x.1, x.2)) e ∧ Below w.heap.size w w' := by
  have HB := hideB2 (below_a1 w (.cells #[.string ⟨#[]⟩, .string ⟨#[]⟩, .int .i64 0, .string ⟨#[]⟩, .bool false, .slice none 0 0, .string ⟨#[]⟩] 24))
  have HA := hideB2 (Blk.new w #[.string ⟨#[]⟩, .string ⟨#[]⟩, .int .i64 0, .string ⟨#[]⟩, .bool false, .slice none 0 0, .string ⟨#[]⟩] 24)
  by_cases h13 : (s.size : Int) < 13
  · rw [an_short (by omega)]
    obtain ⟨a0, a1, a2, a3, a4, a5, a6⟩ := HA.out.c7
    obtain ⟨f0, f1, f2, f3, f4, f5, f6⟩ := HA.out.f7
    go_enter Tryd.func10, Tryd.ntmps10
    go_wp2
    refine bodyPost_ret (results_cellT rfl _ _ _ rfl (Blk.new _ _ _) Tryd.underlying24 Tryd.infoMsg) rfl ⟨⟨⟨#[]⟩, ⟨#[]⟩, 0, ⟨#[]⟩, rfl, fun x hx => no_fl hx⟩, below_a1 _ _⟩
  · have d13 : decide ((s.size : Int) < 13) = false := decide_eq_false h13
    have hev := eqB_verV (s := s.extract 0 9)
    have h9 : (9 : Int) ≤ (s.size : Int) := by omega
    have h12 : 12 < s.size := by omega
    have h12i : (12 : Int) < (s.size : Int) := by omega
    have h13i : (13 : Int) ≤ (s.size : Int) := by omega
    by_cases hv : s.extract 0 9 = verV
    · rw [decide_eq_true hv] at hev
      by_cases hb : at8 s 12 = 32
      · have g32 : ((s[12].toNat : Int) != 32) = false := by rw [show s[12] = at8 s 12 from at8_eq s 12 h12, hb]; rfl
        have HX := hideB2 (an_go (by omega) hv hb)
        have HD := hideB2 (fun W => sReadDec_any (s.extract 9 12) W (by rw [ByteArray.size_extract]; unfold maxLen; omega))
        have HPL := hideB2 (fun W => l5plain_any (s.extract 13 s.size) W (by rw [ByteArray.size_extract]; unfold maxLen; omega))
        clear hv hb
        generalize anO s = X at *
        generalize rdecN (s.extract 9 12) = N at *
        generalize rdecOk (s.extract 9 12) = O at *
        go_enter Tryd.func10, Tryd.ntmps10
        go_wp2_with (go_at_call 20; refine (HD.out _).mono ?_; rintro e w2 ⟨rfl, hb2⟩)
        generalize s.extract 13 s.size = R at *
        have hal := below_a1 w2 (.cells #[.string ⟨#[]⟩, .string ⟨#[]⟩, .int .i64 N, .string R, .bool false, .slice none 0 0, .string ⟨#[]⟩] 24)
        have M2 := Blk.new w2 #[.string ⟨#[]⟩, .string ⟨#[]⟩, .int .i64 N, .string R, .bool false, .slice none 0 0, .string ⟨#[]⟩] 24
        have A2 := (HA.out.later hb2).later hal
        have HB2 := hideB2 (below_then (below_then HB.out hb2) hal)
        have hlt2 := (HA.out.later hb2).lt
        generalize hW : w2.alloc (.cells #[.string ⟨#[]⟩, .string ⟨#[]⟩, .int .i64 N, .string R, .bool false, .slice none 0 0, .string ⟨#[]⟩] 24) = W2 at *
        clear hW hal HB HA HD hb2 hev d13 h13 h9 h13i
        generalize w2.heap.size = G at *
        obtain ⟨p0, p1, p2, p3, p4, p5, p6⟩ := M2.c7
        obtain ⟨a0, a1, a2, a3, a4, a5, a6⟩ := A2.c7
        obtain ⟨f0, f1, f2, f3, f4, f5, f6⟩ := A2.f7
        have HA2 := hideB2 A2
        have HFS : Hid (∀ q, stsQ O N R = q → fsPost (X.map fun x => (⟨#[]⟩, ⟨#[]⟩, x.1, x.2)) (.returned (.tuple #[.agg #[.string ⟨#[]⟩, .string ⟨#[]⟩, .int .i64 N, .string R, .bool false, .slice none 0 0, .string ⟨#[]⟩], .bool q]))) := by
          show ∀ q, _ → _
          intro q hq
          have hx := HX.out
          rw [hq] at hx
          cases q
          · rw [if_neg (by simp)] at hx
            subst hx
            exact ⟨⟨#[]⟩, ⟨#[]⟩, N, R, rfl, fun x h => by cases h⟩
          · rw [if_pos rfl] at hx
            subst hx
            exact ⟨⟨#[]⟩, ⟨#[]⟩, N, R, rfl, fun x h => by cases h; rfl⟩
        clear M2 A2 HX
        cases O
        · have HQ := hideB2 (HFS.out false (by unfold stsQ; simp))
          clear HFS HPL
          go_big_region
          go_wp2
          refine bodyPost_ret (results_cellT rfl _ _ _ rfl (HA2.out.set7 (.string ⟨#[]⟩) (.string ⟨#[]⟩) (.int .i64 N) (.string R) (.bool false) (.slice none 0 0) (.string ⟨#[]⟩)).drew Tryd.underlying24 Tryd.infoMsg) rfl ⟨?_, (below_set7 HB2.out (Nat.le_refl _) (.string ⟨#[]⟩) (.string ⟨#[]⟩) (.int .i64 N) (.string R) (.bool false) (.slice none 0 0) (.string ⟨#[]⟩)).drew⟩
          exact HQ.out
        · cases d2 : decide (200 ≤ N)
          · have HQ := hideB2 (HFS.out false (by unfold stsQ; rw [d2]; simp))
            clear HFS HPL
            go_big_region
            go_wp2
            refine bodyPost_ret (results_cellT rfl _ _ _ rfl (HA2.out.set7 (.string ⟨#[]⟩) (.string ⟨#[]⟩) (.int .i64 N) (.string R) (.bool false) (.slice none 0 0) (.string ⟨#[]⟩)).drew Tryd.underlying24 Tryd.infoMsg) rfl ⟨?_, (below_set7 HB2.out (Nat.le_refl _) (.string ⟨#[]⟩) (.string ⟨#[]⟩) (.int .i64 N) (.string R) (.bool false) (.slice none 0 0) (.string ⟨#[]⟩)).drew⟩
            exact HQ.out
          · cases d5 : decide (N ≤ 599)
            · have HQ := hideB2 (HFS.out false (by unfold stsQ; rw [d5]; simp))
              clear HFS HPL
              go_big_region
              go_wp2
              refine bodyPost_ret (results_cellT rfl _ _ _ rfl (HA2.out.set7 (.string ⟨#[]⟩) (.string ⟨#[]⟩) (.int .i64 N) (.string R) (.bool false) (.slice none 0 0) (.string ⟨#[]⟩)).drew Tryd.underlying24 Tryd.infoMsg) rfl ⟨?_, (below_set7 HB2.out (Nat.le_refl _) (.string ⟨#[]⟩) (.string ⟨#[]⟩) (.int .i64 N) (.string R) (.bool false) (.slice none 0 0) (.string ⟨#[]⟩)).drew⟩
              exact HQ.out
            · cases d4 : decide ((R.size : Int) ≤ 40)
              · have HQ := hideB2 (HFS.out false (by unfold stsQ; rw [d4]; simp))
                clear HFS HPL
                go_big_region
                go_wp2
                refine bodyPost_ret (results_cellT rfl _ _ _ rfl (HA2.out.set7 (.string ⟨#[]⟩) (.string ⟨#[]⟩) (.int .i64 N) (.string R) (.bool false) (.slice none 0 0) (.string ⟨#[]⟩)).drew Tryd.underlying24 Tryd.infoMsg) rfl ⟨?_, (below_set7 HB2.out (Nat.le_refl _) (.string ⟨#[]⟩) (.string ⟨#[]⟩) (.int .i64 N) (.string R) (.bool false) (.slice none 0 0) (.string ⟨#[]⟩)).drew⟩
                exact HQ.out
              · have HQ := hideB2 (HFS.out (plnB R) (by unfold stsQ; rw [d2, d5, d4]; simp))
                clear HFS
                generalize plnB R = q at *
                have hne1 : w.heap.size ≠ G := by omega
                have hne2 : G ≠ w.heap.size := by omega
                go_region_held (fun w' => w'.cell? ⟨G, 0, none⟩ = some (.string ⟨#[]⟩) ∧ w'.cell? ⟨G, 1, none⟩ = some (.string ⟨#[]⟩) ∧ w'.cell? ⟨G, 2, none⟩ = some (.int .i64 N) ∧ w'.cell? ⟨G, 3, none⟩ = some (.string R) ∧ w'.cell? ⟨G, 4, none⟩ = some (.bool false) ∧ w'.cell? ⟨G, 5, none⟩ = some (.slice none 0 0) ∧ w'.cell? ⟨G, 6, none⟩ = some (.string ⟨#[]⟩)) (go_keep) ((go_at_call 21; refine (HPL.out _).mono ?_; rintro e w3 ⟨rfl, rfl⟩))
                all_goals
                  go_wp2_with fail
                  refine bodyPost_ret (results_cellT rfl _ _ _ rfl (HA2.out.set7 (.string ⟨#[]⟩) (.string ⟨#[]⟩) (.int .i64 N) (.string R) (.bool false) (.slice none 0 0) (.string ⟨#[]⟩)).drew Tryd.underlying24 Tryd.infoMsg) rfl ⟨?_, (below_set7 HB2.out (Nat.le_refl _) (.string ⟨#[]⟩) (.string ⟨#[]⟩) (.int .i64 N) (.string R) (.bool false) (.slice none 0 0) (.string ⟨#[]⟩)).drew⟩
                exact HQ.out
      · have g32 : ((s[12].toNat : Int) != 32) = true := by
          rw [show s[12] = at8 s 12 from at8_eq s 12 h12]
          have : ¬ (at8 s 12).toNat = 32 := fun h => hb (UInt8.toNat_inj.1 h)
          simp; omega
        rw [an_bl hb]
        obtain ⟨a0, a1, a2, a3, a4, a5, a6⟩ := HA.out.c7
        obtain ⟨f0, f1, f2, f3, f4, f5, f6⟩ := HA.out.f7
        clear hv hb
        go_enter Tryd.func10, Tryd.ntmps10
        go_wp2
        refine bodyPost_ret (results_cellT rfl _ _ _ rfl (Blk.new _ _ _) Tryd.underlying24 Tryd.infoMsg) rfl ⟨⟨⟨#[]⟩, ⟨#[]⟩, 0, ⟨#[]⟩, rfl, fun x hx => no_fl hx⟩, below_a1 _ _⟩
    · rw [decide_eq_false hv] at hev
      rw [an_ver hv]
      obtain ⟨a0, a1, a2, a3, a4, a5, a6⟩ := HA.out.c7
      obtain ⟨f0, f1, f2, f3, f4, f5, f6⟩ := HA.out.f7
      clear hv
      go_enter Tryd.func10, Tryd.ntmps10
      go_wp2
      refine bodyPost_ret (results_cellT rfl _ _ _ rfl (Blk.new _ _ _) Tryd.underlying24 Tryd.infoMsg) rfl ⟨⟨⟨#[]⟩, ⟨#[]⟩, 0, ⟨#[]⟩, rfl, fun x hx => no_fl hx⟩, below_a1 _ _⟩
end Go.Proofs.YtodandipfjamnaaDoor
