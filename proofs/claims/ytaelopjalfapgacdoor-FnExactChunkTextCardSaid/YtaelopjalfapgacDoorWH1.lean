/-
  strconv.FormatInt at base 16.
-/
import Derived.Test.YtaelopjalfapgacDoorWT1
namespace Go.Proofs.YtaelopjalfapgacDoor
set_option linter.unusedVariables false
set_option linter.unusedSimpArgs false
open Go.RowKit
set_option maxHeartbeats 1000000 in
theorem isPow16 (w : World) : Calls Tryd.prog 19 #[.int .i64 16] w fun e w' => e = .returned (.bool true) ∧ w' = w := by
  go_enter Tryd.func19, Tryd.ntmps19
  go_wp2
  go_ret
  exact ⟨rfl, rfl⟩
theorem tz_idx : IntKind.u64.wrap (bits BinOp.and IntKind.u64 16 (IntKind.u64.wrap (-16)) * 285870213051353865) / 288230376151711744 = 15 := by decide
set_option maxHeartbeats 1000000 in
theorem tz16 (w : World) (hc : w.cell? ⟨2, 15, none⟩ = some (.int .u8 4)) : Calls Tryd.prog 20 #[.int .u64 16] w fun e w' => e = .returned (.int .i64 4) ∧ w' = w := by
  have hx := tz_idx
  go_enter Tryd.func20, Tryd.ntmps20
  go_wp2
  go_ret
  exact ⟨rfl, rfl⟩
/-- Digits in sixteens. -/
def hexC (d : Nat) : UInt8 := if d < 10 then UInt8.ofNat (48 + d) else UInt8.ofNat (87 + d)
def hexF : Nat → Nat → List UInt8
  | 0, u => [hexC u]
  | k + 1, u => if u < 16 then [hexC u] else hexF k (u / 16) ++ [hexC (u % 16)]
def hexL (u : Nat) : List UInt8 := hexF u u
theorem hexF_lt {k u : Nat} (h : u < 16) : hexF k u = [hexC u] := by
  cases k with
  | zero => rfl
  | succ k => rw [hexF, if_pos h]
theorem hexF_same (u : Nat) : ∀ k k', u ≤ k → u ≤ k' → hexF k u = hexF k' u := by
  induction u using Nat.strongRecOn with
  | _ u ih =>
    intro k k' hk hk'
    by_cases h : u < 16
    · rw [hexF_lt h, hexF_lt h]
    · cases k with
      | zero => omega
      | succ k =>
        cases k' with
        | zero => omega
        | succ k' => rw [hexF, hexF, if_neg h, if_neg h, ih (u / 16) (by omega) k k' (by omega) (by omega)]
theorem hexL_lt {u : Nat} (h : u < 16) : hexL u = [hexC u] := hexF_lt h
theorem hexL_ge {u : Nat} (h : ¬ u < 16) : hexL u = hexL (u / 16) ++ [hexC (u % 16)] := by
  unfold hexL
  cases u with
  | zero => omega
  | succ n => rw [hexF, if_neg h, hexF_same ((n + 1) / 16) n ((n + 1) / 16) (by omega) (Nat.le_refl _)]
theorem hexL_len (k : Nat) : ∀ u, u < 16 ^ (k + 1) → (hexL u).length ≤ k + 1 := by
  induction k with
  | zero => intro u hu; rw [hexL_lt (by omega)]; simp
  | succ k ih =>
    intro u hu
    by_cases h : u < 16
    · rw [hexL_lt h]; simp
    · rw [hexL_ge h, List.length_append]
      have := ih (u / 16) (by rw [Nat.pow_succ] at hu; omega)
      simp; omega
theorem hexL_pos (u : Nat) : 1 ≤ (hexL u).length := by
  by_cases h : u < 16
  · rw [hexL_lt h]; simp
  · rw [hexL_ge h]; simp
def hexB (u : Nat) : ByteArray := ⟨(hexL u).toArray⟩
/-- The row of formatBits, while it counts down. -/
def hexRow (k : Nat) (l : List UInt8) : List Int := List.replicate (65 - k) 0 ++ l.map fun b => (b.toNat : Int)
theorem hexRow_len {k : Nat} {l : List UInt8} (h : l.length = k) (hk : k ≤ 65) : (hexRow k l).length = 65 := by simp [hexRow, h]; omega
theorem hexRow_set {k : Nat} {l : List UInt8} (c : UInt8) (hk : k < 65) : hexRow (k + 1) (c :: l) = (hexRow k l).set (65 - k - 1) (c.toNat : Int) := by
  unfold hexRow
  rw [show 65 - k = (65 - (k + 1)) + 1 by omega, List.replicate_succ', List.append_assoc, List.set_append_right _ _ (by simp)]
  have e : 65 - (k + 1) + 1 - 1 - (List.replicate (65 - (k + 1)) (0 : Int)).length = 0 := by simp
  rw [e]
  simp
theorem hexRow_at {k : Nat} {l : List UInt8} (h : l.length = k) (hk : k ≤ 65) (j : Nat) (hj : j < k) : (hexRow k l).getD (65 - k + j) 0 = ((l.map fun b => (b.toNat : Int)).getD j 0) := by
  unfold hexRow
  rw [List.getD, List.getElem?_append_right (by simp), List.getD]
  congr 2
  simp
def Tryd.zeroCells39 : Array Value := (List.replicate 65 (Value.int .u8 0)).toArray
theorem Tryd.info65 : (Tryd.prog.info? 39).map (fun i => (i.zero, i.size)) = some (some (.agg Tryd.zeroCells39), 65) := by kernel_rfl
theorem Tryd.zero65v (w : World) : (zeroValue 39).run Tryd.prog w = .ok (.agg Tryd.zeroCells39) w := by kernel_rfl
theorem Tryd.zero65s : Tryd.zeroCells39.size = 65 := by kernel_rfl
theorem Tryd.zero65n : ¬ Tryd.zeroCells39 = #[] := fun h => by have := congrArg Array.size h; rw [Tryd.zero65s] at this; cases this
theorem Tryd.zero65 : Tryd.zeroCells39 = (List.replicate 65 (Value.int .u8 0)).toArray := by kernel_rfl
theorem zeros_row (w : World) (n : Nat) (T : TypeId) : Row8 (w.alloc (.cells (List.replicate n (Value.int .u8 0)).toArray T)) w.heap.size (List.replicate n 0) := by
  refine ⟨fun j hj => ?_, fun j hj => ?_, by simp⟩
  · rw [List.length_replicate] at hj
    have e : (List.replicate n (0 : Int)).getD j 0 = 0 := by simp [List.getD, hj]
    rw [e]
    simp only [World.cell?, heap_alloc_new]
    simp [hj]
  · simp only [World.frozen?, heap_alloc_new]
    simp
theorem hexRow_start (w : World) : Row8 (w.alloc (.cells Tryd.zeroCells39 39)) w.heap.size (hexRow 0 []) := by
  rw [Tryd.zero65]
  have e : hexRow 0 [] = List.replicate 65 0 := by unfold hexRow; rw [List.map_nil, List.append_nil]
  rw [e]
  exact zeros_row w 65 _
theorem and15 (v : Nat) (hv : v ≤ 268435455) : bits .and .u64 (v : Int) 15 = ((v % 16 : Nat) : Int) := by
  have e : ((BitVec.ofInt 64 (v : Int)) &&& (BitVec.ofInt 64 15)).toNat = v % 16 := by
    rw [BitVec.toNat_and, BitVec.toNat_ofInt, BitVec.toNat_ofInt]
    have e1 : ((v : Int) % ((2 ^ 64 : Nat) : Int)).toNat = v := by omega
    have e2 : ((15 : Int) % ((2 ^ 64 : Nat) : Int)).toNat = 2 ^ 4 - 1 := by decide
    rw [e1, e2, Nat.and_two_pow_sub_one_eq_mod]
  show IntKind.u64.wrap _ = _
  rw [IntKind.wrap_u64]
  show (((BitVec.ofInt 64 (v : Int)) &&& (BitVec.ofInt 64 15)).toNat : Int) % 18446744073709551616 = _
  rw [e]
  omega
theorem digs_at (d : Nat) (hd : d < 16) : ∀ h, ((⟨#[48, 49, 50, 51, 52, 53, 54, 55, 56, 57, 97, 98, 99, 100, 101, 102, 103, 104, 105, 106, 107, 108, 109, 110, 111, 112, 113, 114, 115, 116, 117, 118, 119, 120, 121, 122]⟩ : ByteArray)[d]'h) = hexC d := by
  have hds : d = 0 ∨ d = 1 ∨ d = 2 ∨ d = 3 ∨ d = 4 ∨ d = 5 ∨ d = 6 ∨ d = 7 ∨ d = 8 ∨ d = 9 ∨ d = 10 ∨ d = 11 ∨ d = 12 ∨ d = 13 ∨ d = 14 ∨ d = 15 := by omega
  rcases hds with rfl | rfl | rfl | rfl | rfl | rfl | rfl | rfl | rfl | rfl | rfl | rfl | rfl | rfl | rfl | rfl
  all_goals (intro h; rfl)
theorem sl65 (W : World) (b p : Nat) (hp : p < 65) : (Instr.sliceAt 39 (.pointer (some ⟨b, 0, none⟩)) (some (.int .i64 (p : Int))) none none).run Tryd.prog W = .ok (.slice (some ⟨b, p, none⟩) (65 - p) (65 - p)) W := by
  have hal : Tryd.prog.arrayLen 39 = 65 := by simp [Program.arrayLen, Tryd.underlying39]
  have hel : Tryd.prog.elem 39 = 5 := by simp [Program.elem, Tryd.underlying39]
  rw [run_sliceAt_array_l W 39 ⟨b, 0, none⟩ (by simp [Program.arrayLen, Program.elem, Tryd.underlying39]) .i64 (p : Int) (by omega) (by rw [hal]; omega), hal, hel]
  obtain ⟨i0, hi, hz0, hz1, hz2⟩ := info_parts Tryd.infoU8c
  simp [sizeOf, typeInfo, hi, hz1, slicedAt, go_sem]
  omega
theorem hex_text (W : World) (b k : Nat) (l : List UInt8) (hl : l.length = k) (hk : k ≤ 65) (h : Row8 W b (hexRow k l)) (cap : Nat) :
    (convert 32 9 (.slice (some ⟨b, 65 - k, none⟩) k cap)).run Tryd.prog W = .ok (.string ⟨l.toArray⟩) W := by
  have hc : ∀ i, i < k → W.cell? ⟨b, 65 - k + i, none⟩ = some (.int .u8 ((l.map fun b => (b.toNat : Int)).getD i 0)) := by
    intro i hi
    rw [← hexRow_at hl hk i hi]
    exact h.cell (65 - k + i) (by rw [hexRow_len hl hk]; omega)
  have := run_convert_bytes_arg (P := Tryd.prog) W 32 5 Tryd.underlying32 Tryd.underlying5 b (65 - k) k cap (l.map fun b => (b.toNat : Int)) (by simp [hl]) hc 9 Tryd.underlying9
  rw [this]
  simp only [strOfNums, List.map_map]
  congr 3
  have e : l.map (fun b => UInt8.ofNat ((b.toNat : Int)).toNat) = l := by
    conv => rhs; rw [← List.map_id l]
    apply List.map_congr_left
    intro b _
    simp
  exact congrArg List.toArray e
set_option maxHeartbeats 1000000 in
theorem formatBits_walk (u : Nat) (w : World) (hu : u ≤ 268435455) (hc : w.cell? ⟨2, 15, none⟩ = some (.int .u8 4)) :
    Calls Tryd.prog 15 #[.slice none 0 0, .int .u64 (u : Int), .int .i64 16, .bool false, .bool false] w fun e w' => e = .returned (.tuple #[.slice none 0 0, .string (hexB u)]) ∧ Below w.heap.size w w' := by
  have hc' : ∀ o, (w.alloc o).cell? ⟨2, 15, none⟩ = some (.int .u8 4) := fun o => by
    rw [(below_a1 w o).cell (p := ⟨2, 15, none⟩) (World.block_lt_of_cell? _ _ hc)]; exact hc
  have hul := hexL_len 6 u (by simp; omega)
  have hzv := Tryd.zero65v
  have hzs := Tryd.zero65s
  have hzn := Tryd.zero65n
  have HR := hideB2 (hexRow_start w)
  have HB := hideB2 (below_a1 w (.cells Tryd.zeroCells39 39))
  clear hc
  go_enter Tryd.func15, Tryd.ntmps15
  go_wp2_with (first | (go_at_call 19; refine (isPow16 _).mono ?_; rintro e w' ⟨rfl, rfl⟩) | (go_at_call 20; refine (tz16 _ (hc' _)).mono ?_; rintro e w' ⟨rfl, rfl⟩))
  clear hc'
  clear hzv hzs hzn
  generalize w.alloc (.cells Tryd.zeroCells39 39) = W1 at *
  go_loopw [1, 13] (fun uu ii wr => ∃ (v k : Nat) (l : List UInt8), l.length = k ∧ v ≤ 268435455 ∧ hexL u = hexL v ++ l ∧ uu = .int .u64 v ∧ ii = .int .i64 ((65 - k : Nat) : Int) ∧ Row8 wr w.heap.size (hexRow k l) ∧ Below w.heap.size w wr) (fun uu _ _ => (intOf uu).toNat)
  case atStart => exact ⟨u, 0, [], rfl, hu, by simp, rfl, rfl, HR.out, HB.out⟩
  case round =>
    obtain ⟨v, k, l, hl, hv, hx, rfl, rfl, hrow, hbel⟩ := hrel
    have hk : k + 1 ≤ 7 := by
      have h1 := congrArg List.length hx
      rw [List.length_append, hl] at h1
      have h2 := hexL_pos v
      omega
    clear HR HB
    have hcell := hrow.cell (65 - k - 1) (by rw [hexRow_len hl (by omega)]; omega)
    have hfree := hrow.free (65 - k - 1) (by rw [hexRow_len hl (by omega)]; omega)
    have HX := hideB2 hx
    clear hx
    have hset := hideB2 (fun c => And.intro (show Row8 (wr.setCell ⟨w.heap.size, 65 - k - 1, none⟩ (.int .u8 (c.toNat : Int))) w.heap.size (hexRow (k + 1) (c :: l)) from by rw [hexRow_set c (by omega)]; exact hrow.set _ _ (by rw [hexRow_len hl (by omega)]; omega)) (show Below w.heap.size w (wr.setCell ⟨w.heap.size, 65 - k - 1, none⟩ (.int .u8 (c.toNat : Int))) from hbel.setCell (by simp) _))
    have hi : ((65 - k : Nat) : Int) - 1 = ((65 - k - 1 : Nat) : Int) := by omega
    by_cases h16 : v < 16
    · have hge : ¬ (16 : Int) ≤ (v : Int) := by omega
      have hlast : Hid (hexL u = hexC v :: l) := by show _ = _; rw [HX.out, hexL_lt h16]; rfl
      clear hrow hbel HX
      have hdig := digs_at v h16
      have htx := hideB2 (fun W h cap => hex_text W w.heap.size (k + 1) (hexC v :: l) (by simp [hl]) (by omega) h cap)
      rw [show 65 - (k + 1) = 65 - k - 1 by omega] at htx
      generalize hp : 65 - k - 1 = p at *
      have hp64 : p < 65 := by omega
      have HP := hideB2 hp
      clear hp
      have hsl := fun W => sl65 W w.heap.size p hp64
      rw [show 65 - p = k + 1 by have := HP.out; omega] at hsl
      have h1 := (hset.out (hexC v)).1
      have h2 := (hset.out (hexC v)).2
      have hcv := htx.out _ h1
      have H2 := hideB2 h2
      have hfin : Hid (hexB u = ⟨(hexC v :: l).toArray⟩) := by show _ = _; unfold hexB; rw [hlast.out]
      clear h1 h2 htx hset
      go_wp2
      go_ret2
      exact ⟨by rw [hfin.out]; rfl, H2.out⟩
    · have hstep : Hid (hexL v = hexL (v / 16) ++ [hexC (v % 16)]) := hexL_ge h16
      have hand := and15 v hv
      have hge : (16 : Int) ≤ (v : Int) := by omega
      have hd : v % 16 < 16 := Nat.mod_lt _ (by omega)
      have hdig := hideB2 (digs_at (v % 16) hd)
      clear hrow hbel
      generalize hp : 65 - k - 1 = p at *
      have hp64 : p < 65 := by omega
      have HP := hideB2 hp
      clear hp
      generalize hm : v % 16 = d at *
      have HM := hideB2 hm
      clear hm
      go_wp2
      go_roundw
      case rel =>
        refine ⟨v / 16, k + 1, hexC d :: l, by simp [hl], by omega, by rw [HX.out, hstep.out]; simp, congrArg (Value.int .u64) (by omega), congrArg (Value.int .i64) (by have := HP.out; omega), ?_, ?_⟩
        · rw [hdig.out]; exact (hset.out _).1
        · rw [hdig.out]; exact (hset.out _).2
      case measure => simp [intOf]; omega
end Go.Proofs.YtaelopjalfapgacDoor
