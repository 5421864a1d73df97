/-
  The walks over chapter 3: words. · Chapter 7: addresses, on lists. No Go in sight. · A row of texts that the call itself makes and appends to, one text at a time. · Contracts of the library's functions at this program, laid off the kit's shelf in plain words. · Contracts of the library's functions at this program, laid off the kit's shelf in plain words. · Contracts of the library's functions at this program, laid off the kit's shelf in plain words. · A text cut at each byte of one kind by the library, and texts joined by one. · Bytes that may stand in a target: walks of both sides. · The walks over chapter 1: Token. · The walks over chapter 1: ReadHex. · A row of bytes that the call itself makes and appends to, one byte at a time. · Contracts of the library's functions at this program, laid off the kit's shelf in plain words. · Chapter 7: what a % stands for; the walks of both sides. · Blocks that are known whole.
-/
import Derived.Test.YtmhohponikolfabGreatDoorProg
import Derived.Test.YtmhohponikolfabGreatDoorJ0
import Derived.Laws.ShiftsVarLaws
import Derived.Deep.QuietTactic
import Derived.BigQuiet
import Derived.Shelf.Strings.SplitCore
import Derived.Shelf.Strings.Search3
import Derived.Shelf.Strings.OnBuilder
import Derived.Shelf.Strings.Split
import Derived.Shelf.Strings.IndexAnyAll
import Derived.Deep.WholeRow
import Derived.StillTailTactics
import Derived.BigRegion
import Derived.Laws.CopyOwn
namespace Go.Proofs.YtmhohponikolfabGreatDoor
set_option linter.unusedVariables false
set_option linter.unusedSimpArgs false
open Go.RowKit
theorem ret_two {a b : Value} {c d : Value} (h : a = c) (k : b = d) : Ending.returned (.tuple #[a, b]) = .returned (.tuple #[c, d]) := by rw [h, k]
/-- Is it a word? -/
def wordQ (n : Int) : Bool := withinB n 0 4294967295
theorem wordQ_iff {n : Int} : wordQ n = true ↔ 0 ≤ n ∧ n ≤ 4294967295 := within_iff
theorem turn_i64w (x n : Nat) (hx : x < 4294967296) (hn : n ≤ 31) :
    bits .and .i64 (bits .or .i64 (wrap64 ((x : Int) * 2 ^ n)) ((x : Int) / 2 ^ (32 - n))) 4294967295 = ((rotl x n : Nat) : Int) := by
  have h1 := mul_pow_lt hx hn
  have e1 : (x : Int) * 2 ^ n = ((x * 2 ^ n : Nat) : Int) := by simp
  have e2 : wrap64 ((x : Int) * 2 ^ n) = (x : Int) * 2 ^ n := by
    rw [e1]
    generalize x * 2 ^ n = y at *
    unfold wrap64
    omega
  rw [e2]
  exact turn_i64 x n hx hn
theorem quarter {t : Nat} (h : t ≤ 79) : (t : Int) / 20 = 0 ∧ fOf t = chs ∧ kOf t = 1518500249 ∨ (t : Int) / 20 = 1 ∧ fOf t = par ∧ kOf t = 1859775393 ∨ (t : Int) / 20 = 2 ∧ fOf t = maj ∧ kOf t = 2400959708 ∨ (t : Int) / 20 = 3 ∧ fOf t = par ∧ kOf t = 3395469782 := by
  have h4 : t / 20 = 0 ∨ t / 20 = 1 ∨ t / 20 = 2 ∨ t / 20 = 3 := by omega
  rcases h4 with e | e | e | e
  · exact .inl ⟨by omega, by funext b c d; simp [fOf, e], by simp [kOf, e]⟩
  · exact .inr (.inl ⟨by omega, by funext b c d; simp [fOf, e], by simp [kOf, e]⟩)
  · exact .inr (.inr (.inl ⟨by omega, by funext b c d; simp [fOf, e], by simp [kOf, e]⟩))
  · exact .inr (.inr (.inr ⟨by omega, by funext b c d; simp [fOf, e], by simp [kOf, e]⟩))
theorem xmask (b : Nat) (hb : b < 4294967296) : bits .xor .u32 4294967295 (b : Int) = ((b ^^^ 4294967295 : Nat) : Int) := by
  have := u32_xor_nat 4294967295 b (by decide) hb
  rw [Nat.xor_comm] at this
  exact this
theorem chs_u32 (b c d : Nat) (hb : b < 4294967296) (hc : c < 4294967296) (hd : d < 4294967296) :
    bits .or .u32 (bits .and .u32 (b : Int) (c : Int)) (bits .and .u32 (bits .xor .u32 4294967295 (b : Int)) (d : Int)) = ((chs b c d : Nat) : Int) := by
  have hx : b ^^^ 4294967295 < 4294967296 := xor_lt32 hb (by decide)
  rw [xmask b hb, u32_and_nat b c hb hc, u32_and_nat _ d hx hd, u32_or_nat _ _ (and_lt32 hc) (and_lt32 hd)]
  rfl
theorem par_u32 (b c d : Nat) (hb : b < 4294967296) (hc : c < 4294967296) (hd : d < 4294967296) :
    bits .xor .u32 (bits .xor .u32 (b : Int) (c : Int)) (d : Int) = ((par b c d : Nat) : Int) := by
  rw [u32_xor_nat b c hb hc, u32_xor_nat _ d (xor_lt32 hb hc) hd]
  rfl
theorem maj_u32 (b c d : Nat) (hb : b < 4294967296) (hc : c < 4294967296) (hd : d < 4294967296) :
    bits .or .u32 (bits .or .u32 (bits .and .u32 (b : Int) (c : Int)) (bits .and .u32 (b : Int) (d : Int))) (bits .and .u32 (c : Int) (d : Int)) = ((maj b c d : Nat) : Int) := by
  rw [u32_and_nat b c hb hc, u32_and_nat b d hb hd, u32_and_nat c d hc hd, u32_or_nat _ _ (and_lt32 hc) (and_lt32 hd), u32_or_nat _ _ (or_lt32 (and_lt32 hc) (and_lt32 hd)) (and_lt32 hd)]
  rfl
theorem chs_i64 (b c d : Nat) (hb : b < 4294967296) (hc : c < 4294967296) (hd : d < 4294967296) :
    bits .or .i64 (bits .and .i64 (b : Int) (c : Int)) (bits .and .i64 (bits .xor .i64 (b : Int) 4294967295) (d : Int)) = ((chs b c d : Nat) : Int) := by
  have hx : b ^^^ 4294967295 < 4294967296 := xor_lt32 hb (by decide)
  have h1 := and_lt32 (a := b) hc
  have h2 := and_lt32 (a := b ^^^ 4294967295) hd
  have e := i64_xor_nat b 4294967295 (by omega) (by decide)
  rw [show bits .xor .i64 (b : Int) 4294967295 = ((b ^^^ 4294967295 : Nat) : Int) from e, i64_and_nat b c (by omega) (by omega), i64_and_nat _ d (by omega) (by omega), i64_or_nat _ _ (by omega) (by omega)]
  rfl
theorem par_i64 (b c d : Nat) (hb : b < 4294967296) (hc : c < 4294967296) (hd : d < 4294967296) :
    bits .xor .i64 (bits .xor .i64 (b : Int) (c : Int)) (d : Int) = ((par b c d : Nat) : Int) := by
  have h1 := xor_lt32 hb hc
  rw [i64_xor_nat b c (by omega) (by omega), i64_xor_nat _ d (by omega) (by omega)]
  rfl
theorem maj_i64 (b c d : Nat) (hb : b < 4294967296) (hc : c < 4294967296) (hd : d < 4294967296) :
    bits .or .i64 (bits .or .i64 (bits .and .i64 (b : Int) (c : Int)) (bits .and .i64 (b : Int) (d : Int))) (bits .and .i64 (c : Int) (d : Int)) = ((maj b c d : Nat) : Int) := by
  have h1 := and_lt32 (a := b) hc
  have h2 := and_lt32 (a := b) hd
  have h3 := and_lt32 (a := c) hd
  have h4 := or_lt32 h1 h2
  rw [i64_and_nat b c (by omega) (by omega), i64_and_nat b d (by omega) (by omega), i64_and_nat c d (by omega) (by omega), i64_or_nat _ _ (by omega) (by omega), i64_or_nat _ _ (by omega) (by omega)]
  rfl
theorem tup2 {a b c d : Int} {k l : IntKind} (h : c = a) (g : d = b) : Ending.returned (.tuple #[.int k a, .int l b]) = .returned (.tuple #[.int k c, .int l d]) := by rw [h, g]
/-- What Turn answers. -/
def turnV (x n : Int) : Int := if wordQ x = true ∧ withinB n 0 31 = true then ((rotl x.toNat n.toNat : Nat) : Int) else -1
theorem turnV_yes (x n : Nat) (hx : x < 4294967296) (hn : n ≤ 31) : turnV x n = ((rotl x n : Nat) : Int) := by
  unfold turnV
  rw [if_pos ⟨wordQ_iff.2 ⟨by omega, by omega⟩, within_iff.2 ⟨by omega, by omega⟩⟩]
  simp
theorem turnV_no {x n : Int} (h : wordQ x = false ∨ withinB n 0 31 = false) : turnV x n = -1 := by
  unfold turnV
  rw [if_neg]
  rintro ⟨h1, h2⟩
  rcases h with h | h
  · rw [h1] at h; cases h
  · rw [h2] at h; cases h
end Go.Proofs.YtmhohponikolfabGreatDoor
namespace Go.Proofs.YtmhohponikolfabGreatDoor
set_option linter.unusedVariables false
set_option linter.unusedSimpArgs false
open Go.RowKit
/-- A sign of a host, and of a host's piece. -/
def pcP (n : Int) : Bool := (decide (97 ≤ n) && decide (n ≤ 122)) || digP n || n == 45
def hstP (n : Int) : Bool := pcP n || n == 46
def pc8 (b : UInt8) : Bool := pcP (b.toNat : Int)
def hst8 (b : UInt8) : Bool := hstP (b.toNat : Int)
def hostQ (h : ByteArray) : Bool := decide (h.size ≤ 60) && allB hst8 h && !((splS 46 h).any fun x => eqB x ⟨#[]⟩)
def portB (n : Int) : ByteArray := if n = 80 then ⟨#[]⟩ else (⟨#[58]⟩ : ByteArray) ++ decT n
def qryB (q : ByteArray) (b : Bool) : ByteArray := if b = true then (⟨#[63]⟩ : ByteArray) ++ q else ⟨#[]⟩
def schB : ByteArray := ⟨#[104, 116, 116, 112, 58, 47, 47]⟩
def utxt (ho pa qu : ByteArray) (po : Int) (hq : Bool) : ByteArray := ((schB ++ ho) ++ portB po) ++ pa ++ qryB qu hq
def queQ (q : ByteArray) (b : Bool) : Bool := (b || eqB q ⟨#[]⟩) && decide (idxS 35 q < 0)
def urlQ (ho pa qu : ByteArray) (po : Int) (hq : Bool) : Bool := hostQ ho && withinB po 1 65535 && !eqB pa ⟨#[]⟩ && eqB (clnB pa) pa && queQ qu hq && targQ (utxt ho pa qu po hq)
theorem portB_size (n : Int) : (portB n).size ≤ 16 := by
  unfold portB
  have h := decT_size n
  split
  · show (0 : Nat) ≤ _; omega
  · rw [ByteArray.size_append]
    have e : (⟨#[58]⟩ : ByteArray).size = 1 := rfl
    omega
theorem qryB_size (q : ByteArray) (b : Bool) : (qryB q b).size ≤ q.size + 1 := by
  unfold qryB
  split
  · rw [ByteArray.size_append]
    have e : (⟨#[63]⟩ : ByteArray).size = 1 := rfl
    omega
  · show (0 : Nat) ≤ _; omega
theorem utxt_size (ho pa qu : ByteArray) (po : Int) (hq : Bool) : (utxt ho pa qu po hq).size = 7 + ho.size + (portB po).size + pa.size + (qryB qu hq).size := by
  unfold utxt
  rw [ByteArray.size_append, ByteArray.size_append, ByteArray.size_append, ByteArray.size_append]
  rfl
theorem all_app (p : UInt8 → Bool) (a b : ByteArray) : allB p (a ++ b) = (allB p a && allB p b) := by
  unfold allB
  rw [Go.Joins.data_append, List.all_append]
/-- The pieces have no sign that parts them. -/
theorem splS_all (c : UInt8) (p q : UInt8 → Bool) (hpq : ∀ b, b ≠ c → p b = q b) (hc : p c = true) : ∀ (n : Nat) (s : ByteArray), s.size ≤ n → allB p s = (splS c s).all (allB q)
  | n, s, hn => by
    rcases idxS_cases c s with h | ⟨i, h, hi⟩
    · rw [(splS_none h).2]
      have h0 := idxS_none h
      have e : allB p s = allB q s := by
        unfold allB
        rw [Bool.eq_iff_iff, List.all_eq_true, List.all_eq_true]
        have hx : ∀ b ∈ s.data.toList, p b = q b := by
          intro b hb
          obtain ⟨j, hj, rfl⟩ := List.mem_iff_getElem.1 hb
          have hj' : j < s.size := by rw [len_data] at hj; exact hj
          have := h0 j hj'
          unfold at8 at this
          rw [List.getD, List.getElem?_eq_getElem hj] at this
          exact hpq _ this
        constructor
        · intro hh b hb; rw [← hx b hb]; exact hh b hb
        · intro hh b hb; rw [hx b hb]; exact hh b hb
      rw [e]; simp
    · cases n with
      | zero => omega
      | succ n =>
        obtain ⟨g1, g2, g3⟩ := idxS_some h
        have e2 : (s.extract (i + 1) s.size).size = s.size - (i + 1) := by rw [ByteArray.size_extract]; omega
        have ih := splS_all c p q hpq hc n (s.extract (i + 1) s.size) (by omega)
        have e0 : (s.extract 0 i).size = i := by rw [ByteArray.size_extract]; omega
        have hn0 : idxS c (s.extract 0 i) = -1 := idxS_miss (fun j hj => by
          rw [at8_extS (by omega) (by omega), Nat.zero_add]; exact g3 j (by omega))
        have ih0 := splS_all c p q hpq hc n (s.extract 0 i) (by omega)
        rw [(splS_none hn0).2] at ih0
        rw [(splS_some h).2, List.all_cons, ← ih]
        have e1 : s.data.toList = (s.extract 0 i).data.toList ++ c :: (s.extract (i + 1) s.size).data.toList := by
          have t1 : (s.extract 0 i).data.toList = s.data.toList.take i := by rw [Lib.extract_data, List.drop_zero, Nat.sub_zero]
          have t2 : (s.extract (i + 1) s.size).data.toList = s.data.toList.drop (i + 1) := by
            rw [Lib.extract_data]; exact List.take_of_length_le (by rw [List.length_drop, len_data]; omega)
          rw [t1, t2, ← g2, ← drop_at8 g1, List.take_append_drop]
        have e3 : allB p s = (allB p (s.extract 0 i) && allB p (s.extract (i + 1) s.size)) := by
          unfold allB
          rw [e1, List.all_append, List.all_cons, hc, Bool.true_and]
        rw [e3, ih0]
        simp
theorem hst_pieces (s : ByteArray) : allB hst8 s = (splS 46 s).all (allB pc8) := by
  refine splS_all 46 hst8 pc8 ?_ rfl s.size s (Nat.le_refl _)
  intro b hb
  unfold hst8 pc8 hstP
  have : ((b.toNat : Int) == 46) = false := by
    rw [beq_eq_false_iff_ne]
    intro hh
    exact hb (UInt8.toNat_inj.1 (by have : b.toNat = 46 := by omega
                                    rw [this]; rfl))
  rw [this, Bool.or_false]
theorem pcP_vis {n : Int} (h : hstP n = true) : visP n = true := by
  unfold hstP pcP digP at h
  unfold visP
  simp at h ⊢
  omega
theorem allB_mono {p q : UInt8 → Bool} {s : ByteArray} (h : allB p s = true) (hpq : ∀ b, p b = true → q b = true) : allB q s = true := by
  unfold allB at *
  rw [List.all_eq_true] at *
  intro b hb
  exact hpq b (h b hb)
theorem host_vis {s : ByteArray} (h : allB hst8 s = true) : allB vis8 s = true := allB_mono h (fun b hb => pcP_vis hb)
end Go.Proofs.YtmhohponikolfabGreatDoor
namespace Go.Proofs.YtmhohponikolfabGreatDoor
set_option linter.unusedVariables false
set_option linter.unusedSimpArgs false
open Go.RowKit

/-- The value v is a slice of the call's own that holds the texts l; nothing that was there in w0 has turned. -/
structure BufS (w0 w : World) (v : Value) (l : List ByteArray) : Prop where
  below : Below w0.heap.size w0 w
  own : w.ownsRow w0.heap.size 9 1 v l.length (l.map Value.string)

theorem Tryz.infoStr : (Tryz.prog.info? 9).map (fun i => (i.zero, i.size, i.bytes)) = some (some (.string ⟨#[]⟩), 1, 16) := by kernel_rfl

theorem BufS.start (w : World) : BufS w w (.slice none 0 0) [] := ⟨Below.refl _ _, World.ownsRow_nil _ _ _ _⟩
theorem BufS.alloc {w0 w : World} {v : Value} {l : List ByteArray} (h : BufS w0 w v l) (o : Obj) : BufS w0 (w.alloc o) v l :=
  ⟨h.below.alloc h.below.size o, h.own.alloc o⟩
theorem BufS.form {w0 w : World} {v : Value} {l : List ByteArray} (h : BufS w0 w v l) : ∃ (a : Option Addr) (c : Nat), v = .slice a l.length c := by
  rcases h.own.2 with ⟨h1, h2⟩ | ⟨g, cap, cur, h1, _⟩
  · exact ⟨none, 0, by rw [h1, h2]⟩
  · exact ⟨_, _, h1⟩
/-- A call that leaves all old blocks alone leaves the row. -/
theorem BufS.later {w0 w w' : World} {v : Value} {l : List ByteArray} (h : BufS w0 w v l) (hb : Below w.heap.size w w') : BufS w0 w' v l := by
  refine ⟨h.below.trans (hb.mono h.below.size), ?_⟩
  exact h.own.kept (row := none) ⟨hb.os, hb.tape, hb.output, hb.size, fun k hk _ => hb.block k hk⟩ (by
    cases hv : v.ownBlock with
    | none => exact Or.inl rfl
    | some g => exact Or.inr (by intro e; cases e))
/-- The row's cells, where there is one. -/
theorem BufS.cells {w0 w : World} {v : Value} {l : List ByteArray} (h : BufS w0 w v l) (hl : 0 < l.length) : ∃ g cap, v = .slice (some ⟨g, 0, none⟩) l.length cap ∧ w0.heap.size ≤ g ∧ g < w.heap.size ∧ ∀ j, j < l.length → w.cell? ⟨g, j, none⟩ = some (.string (l.getD j ⟨#[]⟩)) := by
  rcases h.own.2 with ⟨h1, h2⟩ | ⟨g, cap, cur, h1, hg, hh, _⟩
  · omega
  · have hlt := (h.own.lt g (by rw [h1]; rfl)).2
    refine ⟨g, cap, h1, hg, hlt, fun j hj => ?_⟩
    have := h.own.cells (g := g) (by rw [h1]; rfl) j (.string l[j]) (by simp [List.getElem?_eq_getElem hj])
    rw [Addr.add_lit, Nat.zero_add] at this
    rw [this]
    simp [List.getD, List.getElem?_eq_getElem hj]
theorem wp_sapp {ops : Array Oper} {rest : List Oper} {o : Oper} {a : Act} {Q : Exit → Act → World → Prop} {w0 W : World} (hgd : o.guard = none) (s x : Operand)
    (ho : o.op = .call { callee := .builtin .append, args := #[s, x], argTypes := #[38, 38] }) (v : Value) (l : List ByteArray) (hs : a.eval s = v) (hbuf : BufS w0 W v l)
    (y : ByteArray) (hx : a.eval x = .slice (some ⟨W.heap.size, 0, none⟩) 1 1) (hlen : l.length ≤ 1073741824)
    (h : ∀ v' W', BufS w0 W' v' (l ++ [y]) → wpList Tryz.prog ops Q rest (a.put o.dst v') W') :
    wpList Tryz.prog ops Q (o :: rest) a (W.alloc (.cells #[.string y] 9)) := by
  obtain ⟨i0, hi, hz0, hz1, hz2⟩ := info_parts Tryz.infoStr
  refine wpList_append_own _ hgd s x 38 ho w0.heap.size 9 i0 (.string ⟨#[]⟩) 1 16 Tryz.underlying38 hi hz0 hz1 hz2 rfl (by decide) v l.length (l.map Value.string) hs (hbuf.own.alloc _) ⟨W.heap.size, 0, none⟩ 1 1 [.string y] hx rfl (cell_one_new _ _ _) (fun u hu => by simp at hu; subst hu; rfl) (by unfold maxLen; omega) (by omega) (by have := hbuf.below.size; simp; omega) ?_
  intro v' W' hown hgrow _
  refine h v' W' ⟨?_, ?_⟩
  · refine (hbuf.alloc _).below.grown hgrow (by have := hbuf.below.size; simp; omega) ?_
    intro k hk
    exact (hbuf.own.lt k hk).1
  · rw [List.length_append, List.length_singleton, List.map_append]
    exact hown
end Go.Proofs.YtmhohponikolfabGreatDoor
namespace Go.Proofs
open Go.Shelf
def Tryz.lays221_ren : Go.Shelf.Ren := ⟨fun | 221 => 41 | 268 => 58 | 138 => 59 | 143 => 60 | 195 => 73 | 197 => 74 | 218 => 75 | 219 => 39 | 260 => 88 | 217 => 54 | 225 => 55 | 224 => 56 | 267 => 57 | 266 => 71 | 314 => 72 | n => n, fun | 9 => 9 | 3 => 3 | 31 => 38 | 4 => 4 | 0 => 0 | 105 => 76 | 21 => 21 | 5 => 5 | 46 => 65 | 119 => 95 | 139 => 98 | 138 => 97 | 146 => 73 | 51 => 72 | n => n, fun | 1 => 0 | 3 => 1 | 4 => 2 | n => n⟩
theorem Tryz.lays221 : Go.Proofs.Lays.n221 Tryz.prog Tryz.lays221_ren := {
  mixed := by kernel_rfl
  f138 := Tryz.func59.trans (congrArg some (by kernel_rfl))
  f143 := Tryz.func60.trans (congrArg some (by kernel_rfl))
  f195 := Tryz.func73.trans (congrArg some (by kernel_rfl))
  f197 := Tryz.func74.trans (congrArg some (by kernel_rfl))
  f217 := Tryz.func54.trans (congrArg some (by kernel_rfl))
  f218 := Tryz.func75.trans (congrArg some (by kernel_rfl))
  f219 := Tryz.func39.trans (congrArg some (by kernel_rfl))
  f221 := Tryz.func41.trans (congrArg some (by kernel_rfl))
  f224 := Tryz.func56.trans (congrArg some (by kernel_rfl))
  f225 := Tryz.func55.trans (congrArg some (by kernel_rfl))
  f260 := Tryz.func88.trans (congrArg some (by kernel_rfl))
  f266 := Tryz.func71.trans (congrArg some (by kernel_rfl))
  f267 := Tryz.func57.trans (congrArg some (by kernel_rfl))
  f268 := Tryz.func58.trans (congrArg some (by kernel_rfl))
  f314 := Tryz.func72.trans (congrArg some (by kernel_rfl))
  t0 := Tryz.underlying0
  a0 := Tryz.isAgg0
  z0 := Tryz.sizeOf0
  v0 := Tryz.zeroValue0
  t3 := Tryz.underlying3
  a3 := Tryz.isAgg3
  z3 := Tryz.sizeOf3
  v3 := Tryz.zeroValue3
  t4 := Tryz.underlying4
  a4 := Tryz.isAgg4
  z4 := Tryz.sizeOf4
  v4 := Tryz.zeroValue4
  t5 := Tryz.underlying5
  a5 := Tryz.isAgg5
  z5 := Tryz.sizeOf5
  v5 := Tryz.zeroValue5
  t9 := Tryz.underlying9
  a9 := Tryz.isAgg9
  z9 := Tryz.sizeOf9
  v9 := Tryz.zeroValue9
  t21 := Tryz.underlying21
  a21 := Tryz.isAgg21
  z21 := Tryz.sizeOf21
  v21 := Tryz.zeroValue21
  t31 := Tryz.underlying38
  a31 := Tryz.isAgg38
  z31 := Tryz.sizeOf38
  v31 := Tryz.zeroValue38
  t46 := Tryz.underlying65
  a46 := Tryz.isAgg65
  z46 := Tryz.sizeOf65
  v46 := Tryz.zeroValue65
  t51 := Tryz.underlying72
  a51 := Tryz.isAgg72
  z51 := Tryz.sizeOf72
  v51 := Tryz.zeroValue72
  t105 := Tryz.underlying76
  a105 := Tryz.isAgg76
  z105 := Tryz.sizeOf76
  v105 := Tryz.zeroValue76
  t119 := Tryz.underlying95
  a119 := Tryz.isAgg95
  z119 := Tryz.sizeOf95
  t138 := Tryz.underlying97
  a138 := Tryz.isAgg97
  z138 := Tryz.sizeOf97
  v138 := Tryz.zeroValue97
  t139 := Tryz.underlying98
  a139 := Tryz.isAgg98
  z139 := Tryz.sizeOf98
  v139 := Tryz.zeroValue98
  t146 := Tryz.underlying73
  a146 := Tryz.isAgg73
  z146 := Tryz.sizeOf73
  v146 := Tryz.zeroValue73
  g1 := by kernel_rfl
  g3 := by kernel_rfl
  g4 := by kernel_rfl }
end Go.Proofs
namespace Go.Proofs
open Go.Shelf
def Tryz.lays143_ren : Go.Shelf.Ren := ⟨fun | 143 => 60 | 219 => 39 | 217 => 54 | 225 => 55 | 224 => 56 | 267 => 57 | 266 => 71 | 314 => 72 | n => n, fun | 9 => 9 | 3 => 3 | 4 => 4 | 5 => 5 | 46 => 65 | 146 => 73 | 51 => 72 | n => n, fun | 1 => 0 | n => n⟩
theorem Tryz.lays143 : Go.Proofs.Lays.n143 Tryz.prog Tryz.lays143_ren := {
  mixed := by kernel_rfl
  f143 := Tryz.func60.trans (congrArg some (by kernel_rfl))
  f217 := Tryz.func54.trans (congrArg some (by kernel_rfl))
  f219 := Tryz.func39.trans (congrArg some (by kernel_rfl))
  f224 := Tryz.func56.trans (congrArg some (by kernel_rfl))
  f225 := Tryz.func55.trans (congrArg some (by kernel_rfl))
  f266 := Tryz.func71.trans (congrArg some (by kernel_rfl))
  f267 := Tryz.func57.trans (congrArg some (by kernel_rfl))
  f314 := Tryz.func72.trans (congrArg some (by kernel_rfl))
  t3 := Tryz.underlying3
  a3 := Tryz.isAgg3
  z3 := Tryz.sizeOf3
  v3 := Tryz.zeroValue3
  t4 := Tryz.underlying4
  a4 := Tryz.isAgg4
  z4 := Tryz.sizeOf4
  v4 := Tryz.zeroValue4
  t5 := Tryz.underlying5
  a5 := Tryz.isAgg5
  z5 := Tryz.sizeOf5
  v5 := Tryz.zeroValue5
  t9 := Tryz.underlying9
  a9 := Tryz.isAgg9
  z9 := Tryz.sizeOf9
  v9 := Tryz.zeroValue9
  t46 := Tryz.underlying65
  a46 := Tryz.isAgg65
  z46 := Tryz.sizeOf65
  v46 := Tryz.zeroValue65
  t51 := Tryz.underlying72
  a51 := Tryz.isAgg72
  z51 := Tryz.sizeOf72
  v51 := Tryz.zeroValue72
  t146 := Tryz.underlying73
  a146 := Tryz.isAgg73
  z146 := Tryz.sizeOf73
  v146 := Tryz.zeroValue73
  g1 := by kernel_rfl }
end Go.Proofs
namespace Go.Proofs
open Go.Shelf
def Tryz.lays156_ren : Go.Shelf.Ren := ⟨fun | 156 => 26 | 165 => 42 | 166 => 43 | 169 => 44 | 240 => 61 | 241 => 62 | 276 => 76 | 277 => 77 | n => n, fun | 31 => 38 | 9 => 9 | 3 => 3 | 4 => 4 | 0 => 0 | 20 => 20 | 72 => 52 | 76 => 56 | 70 => 50 | 37 => 47 | 75 => 55 | 127 => 67 | 164 => 78 | 5 => 5 | 80 => 58 | n => n, fun | n => n⟩
theorem Tryz.lays156 : Go.Proofs.Lays.n156 Tryz.prog Tryz.lays156_ren := {
  mixed := by kernel_rfl
  f156 := Tryz.func26.trans (congrArg some (by kernel_rfl))
  f165 := Tryz.func42.trans (congrArg some (by kernel_rfl))
  f166 := Tryz.func43.trans (congrArg some (by kernel_rfl))
  f169 := Tryz.func44.trans (congrArg some (by kernel_rfl))
  f240 := Tryz.func61.trans (congrArg some (by kernel_rfl))
  f241 := Tryz.func62.trans (congrArg some (by kernel_rfl))
  f276 := Tryz.func76.trans (congrArg some (by kernel_rfl))
  f277 := Tryz.func77.trans (congrArg some (by kernel_rfl))
  t0 := Tryz.underlying0
  a0 := Tryz.isAgg0
  z0 := Tryz.sizeOf0
  v0 := Tryz.zeroValue0
  t3 := Tryz.underlying3
  a3 := Tryz.isAgg3
  z3 := Tryz.sizeOf3
  v3 := Tryz.zeroValue3
  t4 := Tryz.underlying4
  a4 := Tryz.isAgg4
  z4 := Tryz.sizeOf4
  v4 := Tryz.zeroValue4
  t9 := Tryz.underlying9
  a9 := Tryz.isAgg9
  z9 := Tryz.sizeOf9
  v9 := Tryz.zeroValue9
  t20 := Tryz.underlying20
  a20 := Tryz.isAgg20
  z20 := Tryz.sizeOf20
  v20 := Tryz.zeroValue20
  t31 := Tryz.underlying38
  a31 := Tryz.isAgg38
  z31 := Tryz.sizeOf38
  v31 := Tryz.zeroValue38
  t37 := Tryz.underlying47
  a37 := Tryz.isAgg47
  z37 := Tryz.sizeOf47
  v37 := Tryz.zeroValue47
  t70 := Tryz.underlying50
  a70 := Tryz.isAgg50
  z70 := Tryz.sizeOf50
  v70 := Tryz.zeroValue50
  t72 := Tryz.underlying52
  a72 := Tryz.isAgg52
  z72 := Tryz.sizeOf52
  v72 := Tryz.zeroValue52
  t75 := Tryz.underlying55
  a75 := Tryz.isAgg55
  z75 := Tryz.sizeOf55
  v75 := Tryz.zeroValue55
  t76 := Tryz.underlying56
  a76 := Tryz.isAgg56
  z76 := Tryz.sizeOf56
  v76 := Tryz.zeroValue56
  t127 := Tryz.underlying67
  a127 := Tryz.isAgg67
  z127 := Tryz.sizeOf67
  v127 := Tryz.zeroValue67
  t164 := Tryz.underlying78
  a164 := Tryz.isAgg78
  z164 := Tryz.sizeOf78
  v164 := Tryz.zeroValue78 }
end Go.Proofs
namespace Go.Proofs.YtmhohponikolfabGreatDoor
set_option linter.unusedVariables false
set_option linter.unusedSimpArgs false
open Go.RowKit
theorem IndexS_any (s : ByteArray) (c : UInt8) (w : World) :
    Calls Tryz.prog 60 #[.string s, .string ⟨#[c]⟩] w fun e w' => e = .returned (.int .i64 (Lib.indexB s ⟨#[c]⟩)) ∧ w' = w := by
  rw [idxS_B]
  exact Any.strings_Index_one Tryz.lays143 s c w
theorem CountS_any (s : ByteArray) (c : UInt8) (w : World) :
    Calls Tryz.prog 59 #[.string s, .string ⟨#[c]⟩] w fun e w' => e = .returned (.int .i64 (Lib.countB s ⟨#[c]⟩)) ∧ w' = w := by
  refine (Any.strings_Count_one { Tryz.lays221 with } s c w).mono fun e w' ⟨he, hw⟩ => ⟨?_, hw⟩
  rw [he]
  show _ = Ending.returned (Value.int .i64 ((Lib.count s.data.toList [c] : Nat) : Int))
  rw [Lib.count_one]
  rfl
theorem genSplitS (s : ByteArray) (c : UInt8) (n : Int) (N : Nat) (w : World) (hs : s.size < 4294967281) (hn0 : n ≠ 0) (hn63 : n ≤ 9223372036854775807) (hN : (N : Int) = min (if n < 0 then (Lib.countB s ⟨#[c]⟩ : Int) + 1 else n) ((s.size : Int) + 1)) :
    Calls Tryz.prog 41 #[.string s, .string ⟨#[c]⟩, .int .i64 0, .int .i64 n] w fun e w' =>
      e = .returned (.slice (some ⟨w.heap.size, 0, none⟩) (Lib.splitB ⟨#[c]⟩ 0 (N - 1) s).length N) ∧ w' = w.alloc (.cells (Lib.cellsOf (Lib.splitB ⟨#[c]⟩ 0 (N - 1) s) N) 9) :=
  Any.strings_genSplit_core Tryz.lays221 (by kernel_rfl) s ⟨#[c]⟩ 0 n N w hs (Nat.le_refl _) (Nat.zero_le _) (fun x _ _ => IndexS_any x c _) (CountS_any s c w) hn0 hn63 hN
/-- A whole row of the call's own, as Split hands it back. -/
theorem buf_made (w : World) (l : List ByteArray) (hl : 1 ≤ l.length) (hm : l.length ≤ maxLen) : BufS w (w.alloc (.cells ((l.map Value.string).toArray) 9)) (.slice (some ⟨w.heap.size, 0, none⟩) l.length l.length) l := by
  refine ⟨below_a1 w _, by simp, .inr ⟨w.heap.size, l.length, (l.map Value.string).toArray, rfl, Nat.le_refl _, heap_alloc_new w _, Nat.le_refl _, hm, by simp, ?_⟩⟩
  simp only [Nat.mul_one]
  exact List.take_of_length_le (by simp)
set_option maxHeartbeats 1000000 in
theorem SplitS_any (s : ByteArray) (c : UInt8) (w : World) (hs : s.size ≤ 1048576) :
    Calls Tryz.prog 24 #[.string s, .string ⟨#[c]⟩] w fun e w' => ∃ v, e = .returned v ∧ BufS w w' v (splS c s) := by
  have h1 : 1 ≤ (⟨#[c]⟩ : ByteArray).size := Nat.le_refl _
  have hle := splS_cnt c s
  have hlen := splS_len c s
  have g := genSplitS s c (-1) (cntS c s + 1) w (by omega) (by decide) (by decide) (by rw [if_pos (by decide)]; unfold cntS at hle ⊢; omega)
  rw [Nat.add_sub_cancel] at g
  change Calls _ _ _ w fun e w' => e = .returned (.slice (some ⟨w.heap.size, 0, none⟩) (splS c s).length (cntS c s + 1)) ∧ w' = w.alloc (.cells (Lib.cellsOf (splS c s) (cntS c s + 1)) 9) at g
  rw [← hlen, Lib.cellsOf_full] at g
  have HB := hideB2 (buf_made w (splS c s) (by omega) (by unfold maxLen; omega))
  have HC := hideB2 g
  clear g
  generalize splS c s = L at *
  generalize hA : (L.map Value.string).toArray = arr at *
  clear hA
  generalize hq : L.length = q at *
  clear hq hlen hle
  go_enter Tryz.func24, Tryz.ntmps24
  go_wp2_with (go_at_call 41; refine HC.out.mono ?_; rintro e w' ⟨rfl, hw⟩; rw [hw])
  go_ret
  exact ⟨_, rfl, HB.out⟩
theorem Tryz.extraS : Builder.Extra Tryz.prog Tryz.lays156_ren := { sizeBuilder := by kernel_rfl, liesBuilder := by kernel_rfl, t5 := Tryz.underlying5, a5 := Tryz.isAgg5, z5 := Tryz.sizeOf5, v5 := Tryz.zeroValue5, infoByte := by kernel_rfl, cellsByte := by kernel_rfl, sizeByte := by kernel_rfl, neB5 := by decide }
theorem JoinS_any (w0 w : World) (v : Value) (c : UInt8) (l : List ByteArray) (hb : BufS w0 w v l) (hl : l.length ≤ 4194304) (hlen : (joinS c l).size ≤ 4194304) :
    Calls Tryz.prog 26 #[v, .string ⟨#[c]⟩] w fun e w' => e = .returned (.string (joinS c l)) ∧ Below w.heap.size w w' := by
  rcases hb.own.2 with ⟨h1, h2⟩ | ⟨g, cap, cur, h1, hg, hh, hc, _⟩
  · obtain rfl : l = [] := List.eq_nil_of_length_eq_zero h2
    subst h1
    refine (Any.strings_Join_none Tryz.lays156 Tryz.extraS none 0 ⟨#[c]⟩ w).mono ?_
    rintro e w' ⟨rfl, rfl⟩
    exact ⟨rfl, Below.refl _ _⟩
  · have hlt := (hb.own.lt g (by rw [h1]; rfl)).2
    have hcell : ∀ (j : Nat) x, l[j]? = some x → w.cell? ⟨g, 0 + j, none⟩ = some (.string x) := by
      intro j x hx
      have := hb.own.cells (g := g) (by rw [h1]; rfl) j (.string x) (by simp [hx])
      rwa [Addr.add_lit] at this
    subst h1
    have := Any.strings_Join Tryz.lays156 Tryz.extraS g 0 cap l ⟨#[c]⟩ w hcell hlt (by omega) hc (by
      have e : (joinS c l).size = (Lib.join (l.map (·.data.toList)) [c]).length := by show (Lib.join (l.map (·.data.toList)) [c]).toArray.size = _; simp
      show (Lib.join (l.map (·.data.toList)) [c]).length ≤ _
      omega)
    refine this.mono ?_
    rintro e w' ⟨rfl, hb'⟩
    exact ⟨rfl, hb'⟩
theorem BufS.shrink {w0 w : World} {g cap n : Nat} {l : List ByteArray} (h : BufS w0 w (.slice (some ⟨g, 0, none⟩) n cap) l) (m : Nat) (hm : m ≤ l.length) : BufS w0 w (.slice (some ⟨g, 0, none⟩) m cap) (l.take m) := by
  refine ⟨h.below, by simp <;> omega, .inr ?_⟩
  rcases h.own.2 with ⟨h1, _⟩ | ⟨g', cap', cur, h1, hg, hh, hc, hx, hcs, ht⟩
  · cases h1
  · injection h1 with e1 e2 e3
    injection e1 with e1
    injection e1 with e1
    subst e1 e3
    refine ⟨g, cap, cur, by simp <;> omega, hg, hh, by simp <;> omega, hx, hcs, ?_⟩
    have := congrArg (List.take m) ht
    rw [List.take_take, ← List.map_take] at this
    rw [← this]
    congr 1
    simp <;> omega
end Go.Proofs.YtmhohponikolfabGreatDoor
namespace Go.Proofs.YtmhohponikolfabGreatDoor
set_option linter.unusedVariables false
set_option linter.unusedSimpArgs false
open Go.RowKit
theorem targQ_no1 {s : ByteArray} (h : withinB (s.size : Int) 1 200 = false) : targQ s = false := by
  unfold targQ; rw [show (decide (1 ≤ (s.size : Int)) && decide ((s.size : Int) ≤ 200)) = false from h]; rfl
theorem targQ_no2 {s : ByteArray} (h : allB vis8 s = false) : targQ s = false := by unfold targQ; rw [h]; simp
theorem targQ_yes {s : ByteArray} (h1 : withinB (s.size : Int) 1 200 = true) (h : allB vis8 s = true) : targQ s = true := by
  unfold targQ; rw [show (decide (1 ≤ (s.size : Int)) && decide ((s.size : Int) ≤ 200)) = true from h1, h]; rfl
set_option maxHeartbeats 1000000 in
theorem targetOk_any (s : ByteArray) (w : World) (hs : s.size ≤ maxLen) :
    Calls Tryz.prog 31 #[.string s] w fun e w' => e = .returned (.bool (targQ s)) ∧ w' = w := by
  unfold maxLen at hs
  cases h1 : withinB (s.size : Int) 1 200
  · have hf := hideB2 (targQ_no1 h1)
    go_enter Tryz.func31, Tryz.ntmps31
    go_wp2_with (go_at_call 28; refine (within_any _ _ _ _).mono ?_; rintro e w' ⟨rfl, rfl⟩; rw [h1])
    go_ret
    exact ⟨ret_bool hf.out, rfl⟩
  · have H1 := hideB2 h1
    clear h1
    go_enter Tryz.func31, Tryz.ntmps31
    go_wp2_with (go_at_call 28; refine (within_any _ _ _ _).mono ?_; rintro e w' ⟨rfl, rfl⟩; rw [H1.out])
    go_loop [10] (fun i => ∃ k : Nat, k ≤ s.size ∧ i = .int .i64 k ∧ ∀ j, j < k → vis8 (at8 s j) = true) (fun i => s.size - (intOf i).toNat)
    case atStart => exact ⟨0, Nat.zero_le _, rfl, fun j hj => by omega⟩
    case round =>
      obtain ⟨k, hk, rfl, hall⟩ := hrel
      have Hall : Hid (∀ j, j < k → vis8 (at8 s j) = true) := hall
      clear hall
      by_cases hlt : k < s.size
      · have e64 : wrap64 (s[k].toNat : Int) = (s[k].toNat : Int) := by
          have h1 := u8_hi s[k]
          have h2 := u8_lo s[k]
          unfold wrap64
          omega
        cases hg0 : vis8 (at8 s k)
        · have hg := hideB2 (show withinB (s[k].toNat : Int) 33 126 = false by rw [at8_eq s k hlt]; exact hg0)
          have hfin : Hid (targQ s = false) := targQ_no2 (allB_no hlt hg0)
          clear hg0
          go_wp2_with (go_at_call 28; refine (within_any _ _ _ _).mono ?_; rintro e w' ⟨rfl, rfl⟩; rw [e64, hg.out])
          go_ret
          exact ⟨ret_bool hfin.out, rfl⟩
        · have hg := hideB2 (show withinB (s[k].toNat : Int) 33 126 = true by rw [at8_eq s k hlt]; exact hg0)
          have Hg : Hid (vis8 (at8 s k) = true) := hg0
          clear hg0
          go_wp2_with (go_at_call 28; refine (within_any _ _ _ _).mono ?_; rintro e w' ⟨rfl, rfl⟩; rw [e64, hg.out])
          go_round
          case rel => exact ⟨k + 1, by omega, by go_num, all_succ Hall.out Hg.out⟩
          case measure => simp [intOf]; omega
      · have hfin : Hid (targQ s = true) := targQ_yes H1.out (allB_yes (fun j hj => Hall.out j (by omega)))
        go_wp2
        go_ret
        exact ⟨ret_bool hfin.out, rfl⟩
theorem vis_int (n : Int) : visP n = (!decide (n < 33) && !decide (126 < n)) := by
  unfold visP
  by_cases h1 : n < 33 <;> by_cases h2 : 126 < n <;> simp [h1, h2] <;> omega
set_option maxHeartbeats 1000000 in
theorem l6visible_any (s : ByteArray) (w : World) (hs : s.size ≤ maxLen) :
    Calls Tryz.prog 37 #[.string s] w fun e w' => e = .returned (.bool (decide (0 < (s.size : Int)) && allB vis8 s)) ∧ w' = w := by
  unfold maxLen at hs
  generalize hR : (decide (0 < (s.size : Int)) && allB vis8 s) = R
  have HR := hideB2 hR
  clear hR
  go_enter Tryz.func37, Tryz.ntmps37
  go_wp2
  go_loop [3] (fun i => ∃ k : Nat, k ≤ s.size ∧ i = .int .i64 k ∧ ∀ j, j < k → vis8 (at8 s j) = true) (fun i => s.size - (intOf i).toNat)
  case atStart => exact ⟨0, Nat.zero_le _, rfl, fun j hj => by omega⟩
  case round =>
    obtain ⟨k, hk, rfl, hall⟩ := hrel
    have Hall : Hid (∀ j, j < k → vis8 (at8 s j) = true) := hall
    clear hall
    by_cases hlt : k < s.size
    · have hat : (s[k].toNat : Int) = ((at8 s k).toNat : Int) := by rw [at8_eq s k hlt]
      by_cases h33 : (s[k].toNat : Int) < 33
      · have hfin : Hid (R = false) := by
          show R = false
          rw [← HR.out, allB_no hlt (by unfold vis8; rw [← hat, vis_int]; simp [h33]), Bool.and_false]
        clear hat
        go_wp2
        go_ret
        exact ⟨ret_bool hfin.out, rfl⟩
      · by_cases h126 : (126 : Int) < (s[k].toNat : Int)
        · have hfin : Hid (R = false) := by
            show R = false
            rw [← HR.out, allB_no hlt (by unfold vis8; rw [← hat, vis_int]; simp [h126]), Bool.and_false]
          clear hat
          have d33 : decide ((s[k].toNat : Int) < 33) = false := decide_eq_false h33
          go_wp2
          go_ret
          exact ⟨ret_bool hfin.out, rfl⟩
        · have Hg : Hid (vis8 (at8 s k) = true) := by
            show vis8 _ = true
            unfold vis8; rw [← hat, vis_int]; simp [h33, h126]
          clear hat
          have d33 : decide ((s[k].toNat : Int) < 33) = false := decide_eq_false h33
          have d126 : decide ((126 : Int) < (s[k].toNat : Int)) = false := decide_eq_false h126
          go_wp2
          go_round
          case rel => exact ⟨k + 1, by omega, by go_num, all_succ Hall.out Hg.out⟩
          case measure => simp [intOf]; omega
    · have hfin : Hid (R = decide (0 < s.size)) := by
        show R = _
        rw [← HR.out, allB_yes (fun j hj => Hall.out j (by omega)), Bool.and_true]
        apply decide_eq_decide.2
        omega
      go_wp2
      go_ret
      exact ⟨ret_bool hfin.out, rfl⟩
end Go.Proofs.YtmhohponikolfabGreatDoor
namespace Go.Proofs.YtmhohponikolfabGreatDoor
set_option linter.unusedVariables false
set_option linter.unusedSimpArgs false
open Go.RowKit


theorem hideB3 {p : Prop} (h : p) : Hid p := h
theorem letP_yes {n : Int} (h1 : 97 ≤ lowI n) (h2 : lowI n ≤ 122) : letP n = true := by simp [letP, h1, h2]
theorem letP_no {n : Int} (h : lowI n < 97 ∨ 122 < lowI n) : letP n = false := by
  unfold letP
  rcases h with h | h
  · simp [show ¬ 97 ≤ lowI n by omega]
  · simp [show ¬ lowI n ≤ 122 by omega]
/-- The signs of impl's token, as the text has them. -/
theorem tokSigns_at (k : Nat) (hk : k < (⟨#[33, 35, 36, 37, 38, 39, 42, 43, 45, 46, 94, 95, 124, 126, 96]⟩ : ByteArray).size) : (⟨#[33, 35, 36, 37, 38, 39, 42, 43, 45, 46, 94, 95, 124, 126, 96]⟩ : ByteArray)[k] = tokSigns.getD k 0 := by
  rw [at8_eq _ k hk]; rfl
set_option maxHeartbeats 1000000 in
theorem letterByte_any (n : Int) (w : World) (h0 : 0 ≤ n) (h1 : n ≤ 255) :
    Calls Tryz.prog 92 #[.int .u8 n] w fun e w' => e = .returned (.bool (letP n)) ∧ w' = w := by
  unfold letP
  generalize hm : lowI n = m
  have HM := hideB3 hm
  clear hm
  by_cases hl : 97 ≤ m
  · go_enter Tryz.func92, Tryz.ntmps92
    go_wp2_with (go_at_call 98; refine (smallByte_any _ _ h0 h1).mono ?_; rintro e w' ⟨rfl, rfl⟩; rw [HM.out])
    go_ret
    exact ⟨ret_bool (by first | (simp [hl]; done) | (simp; omega)), rfl⟩
  · go_enter Tryz.func92, Tryz.ntmps92
    go_wp2_with (go_at_call 98; refine (smallByte_any _ _ h0 h1).mono ?_; rintro e w' ⟨rfl, rfl⟩; rw [HM.out])
    go_ret
    exact ⟨ret_bool (by first | (simp [hl]; done) | (simp; omega)), rfl⟩
set_option maxHeartbeats 1000000 in
theorem l1has_any (s : ByteArray) (n : Int) (w : World) (hs : s.size ≤ maxLen) :
    Calls Tryz.prog 87 #[.string s, .int .u8 n] w fun e w' => e = .returned (.bool (inL s.data.toList n)) ∧ w' = w := by
  unfold maxLen at hs
  go_enter Tryz.func87, Tryz.ntmps87
  go_wp2
  go_loop [5] (fun i => ∃ k : Nat, k ≤ s.size ∧ i = .int .i64 k ∧ ∀ j, j < k → ((s.data.toList.getD j 0).toNat : Int) ≠ n) (fun i => s.size - (intOf i).toNat)
  case atStart => exact ⟨0, Nat.zero_le _, rfl, fun j hj => by omega⟩
  case round =>
    obtain ⟨k, hk, rfl, hall⟩ := hrel
    have Hall : Hid (∀ j, j < k → ((s.data.toList.getD j 0).toNat : Int) ≠ n) := hall
    clear hall
    by_cases hlt : k < s.size
    · have hl2 : k < s.data.toList.length := by simpa using hlt
      have hat : s[k] = s.data.toList.getD k 0 := at8_eq s k hlt
      have Hat : Hid (s[k] = s.data.toList.getD k 0) := hat
      clear hat
      cases hq : ((s[k].toNat : Int) == n)
      · go_wp2
        go_round
        case rel => exact ⟨k + 1, by omega, by go_num, all_succ Hall.out (by rw [← Hat.out]; simpa using hq)⟩
        case measure => simp [intOf]; omega
      · have e : Hid (inL s.data.toList n = true) := inL_hit hl2 (by rw [beq_iff_eq] at hq; rw [← hq, Hat.out, List.getD, List.getElem?_eq_getElem hl2]; rfl)
        go_wp2
        go_ret
        exact ⟨ret_bool e.out, rfl⟩
    · have e : Hid (inL s.data.toList n = false) := inL_miss (fun j hj => Hall.out j (by have := len_data s; omega))
      go_wp2
      go_ret
      exact ⟨ret_bool e.out, rfl⟩
end Go.Proofs.YtmhohponikolfabGreatDoor
namespace Go.Proofs.YtmhohponikolfabGreatDoor
set_option linter.unusedVariables false
set_option linter.unusedSimpArgs false
open Go.RowKit

theorem ret_ib6 {k : IntKind} {n m : Int} {a b : Bool} (h : m = n) (h' : b = a) : Ending.returned (.tuple #[.int k n, .bool a]) = .returned (.tuple #[.int k m, .bool b]) := by rw [h, h']
theorem hexV_neg {n : Int} (h : hexV n < 0) : digP n = false ∧ (lowI n < 97 ∨ 102 < lowI n) := by
  unfold hexV at h
  split at h
  · rename_i hd; rw [digP_iff] at hd; omega
  · rename_i hd
    split at h
    · omega
    · exact ⟨by simpa using hd, by omega⟩
theorem hexV_pos {n : Int} (h : 0 ≤ hexV n) : (digP n = true ∧ hexV n = n - 48) ∨ (digP n = false ∧ 97 ≤ lowI n ∧ lowI n ≤ 102 ∧ hexV n = lowI n - 87) := by
  cases hd : digP n
  · right
    by_cases hl : 97 ≤ lowI n ∧ lowI n ≤ 102
    · exact ⟨rfl, hl.1, hl.2, hexV_let hd hl.1 hl.2⟩
    · rw [hexV_no hd (by omega)] at h; omega
  · left; exact ⟨rfl, hexV_dig hd⟩
set_option maxHeartbeats 1000000 in
theorem hexValue_any (n : Int) (w : World) (h0 : 0 ≤ n) (h1 : n ≤ 255) :
    Calls Tryz.prog 97 #[.int .u8 n] w fun e w' => e = .returned (.int .i64 (hexV n)) ∧ w' = w := by
  cases hd : digP n
  · by_cases hl : 97 ≤ lowI n ∧ lowI n ≤ 102
    · obtain ⟨ha, hb⟩ := hl
      rw [hexV_let hd ha hb]
      go_enter Tryz.func97, Tryz.ntmps97
      go_wp2_with (first | (go_at_call 98; refine (smallByte_any _ _ (by omega) (by omega)).mono ?_; rintro e w' ⟨rfl, rfl⟩) | (go_at_call 40; refine (digitByte_any _ _).mono ?_; rintro e w' ⟨rfl, rfl⟩))
      go_ret
      exact ⟨ret_int (by omega), rfl⟩
    · have hl' : lowI n < 97 ∨ 102 < lowI n := by omega
      rw [hexV_no hd hl']
      have hl2 : lowI n < 97 ∨ (102 < lowI n ∧ decide (lowI n ≤ 102) = false) := by
        rcases hl' with h | h
        · exact Or.inl h
        · exact Or.inr ⟨h, by simp; omega⟩
      clear hl hl'
      rcases hl2 with hl | ⟨hl, hl3⟩
      all_goals
        go_enter Tryz.func97, Tryz.ntmps97
        go_wp2_with (first | (go_at_call 98; refine (smallByte_any _ _ (by omega) (by omega)).mono ?_; rintro e w' ⟨rfl, rfl⟩) | (go_at_call 40; refine (digitByte_any _ _).mono ?_; rintro e w' ⟨rfl, rfl⟩))
        go_ret
        exact ⟨rfl, rfl⟩
  · have hb := digP_iff.1 hd
    rw [hexV_dig hd]
    go_enter Tryz.func97, Tryz.ntmps97
    go_wp2_with (first | (go_at_call 98; refine (smallByte_any _ _ (by omega) (by omega)).mono ?_; rintro e w' ⟨rfl, rfl⟩) | (go_at_call 40; refine (digitByte_any _ _).mono ?_; rintro e w' ⟨rfl, rfl⟩))
    go_ret
    exact ⟨rfl, rfl⟩
set_option maxHeartbeats 1000000 in
theorem ReadHex_any (s : ByteArray) (w : World) (hs : s.size ≤ maxLen) :
    Calls Tryz.prog 91 #[.string s] w fun e w' => e = .returned (.tuple #[.int .i64 (rhexN s), .bool (rhexOk s)]) ∧ w' = w := by
  unfold maxLen at hs
  by_cases h0 : s.size = 0
  · have hr := rhex_size (Or.inl h0)
    have hne : s.toList.isEmpty = true := by rw [ByteArray.toList_eq, List.isEmpty_iff, ← List.length_eq_zero_iff, Array.length_toList]; exact h0
    rw [hr.1, hr.2]
    clear hr
    go_enter Tryz.func91, Tryz.ntmps91
    go_wp2
    go_ret2
    exact ⟨rfl, rfl⟩
  · have hne2 : s.toList.isEmpty = false := by
      rw [ByteArray.toList_eq, List.isEmpty_eq_false_iff]
      intro hh
      apply h0
      rw [← len_data, hh]; rfl
    by_cases hbig : (7 : Int) < (s.size : Int)
    · have hr := rhex_size (s := s) (Or.inr (by omega))
      rw [hr.1, hr.2]
      clear hr
      go_enter Tryz.func91, Tryz.ntmps91
      go_wp2
      go_ret2
      exact ⟨rfl, rfl⟩
    · go_enter Tryz.func91, Tryz.ntmps91
      go_wp2
      clear hne2
      go_loop [4, 16] (fun n i => ∃ k : Nat, k ≤ s.size ∧ i = .int .i64 k ∧ n = .int .i64 (hval (s.data.toList.take k)) ∧ allHex (s.data.toList.take k) = true) (fun _ i => s.size - (intOf i).toNat)
      case atStart => exact ⟨0, Nat.zero_le _, rfl, rfl, rfl⟩
      case round =>
        obtain ⟨k, hk, rfl, rfl, hall⟩ := hrel
        have Hall : Hid (allHex (s.data.toList.take k) = true) := hall
        obtain ⟨hv0, hv1⟩ := hval_small s k (by omega) hall
        clear hall
        by_cases hlt : k < s.size
        · have hlo := u8_lo s[k]
          have hhi := u8_hi s[k]
          have hn0 : hexV (s[k].toNat : Int) = hex8 (at8 s k) := by rw [at8_eq s k hlt]; rfl
          by_cases hg0 : hex8 (at8 s k) < 0
          · have hfin : Hid (rhexN s = 0 ∧ rhexOk s = false) := rhex_no hlt hg0
            have hneg : hexV (s[k].toNat : Int) < 0 := by rw [hn0]; exact hg0
            clear hg0 hn0
            generalize hval (s.data.toList.take k) = v at *
            go_wp2_with (go_at_call 97; refine (hexValue_any _ _ (by omega) (by omega)).mono ?_; rintro e w' ⟨rfl, rfl⟩)
            go_ret2
            exact ⟨ret_ib6 hfin.out.1 hfin.out.2, rfl⟩
          · have hvq : Hid (hval (s.data.toList.take (k + 1)) = hval (s.data.toList.take k) * 16 + hexV (s[k].toNat : Int)) := by
              show _ = _
              rw [allDig_take_succ s k hlt, hval_snoc, hn0]
            have Hall2 : Hid (allHex (s.data.toList.take (k + 1)) = true) := by
              show _ = _
              rw [allDig_take_succ s k hlt]; exact allHex_snoc _ _ Hall.out (by omega)
            have hpos : 0 ≤ hexV (s[k].toNat : Int) := by rw [hn0]; omega
            have hp15 := (hexV_bd (s[k].toNat : Int)).2
            clear hg0 hn0
            generalize hval (s.data.toList.take k) = v at *
            go_wp2_with (go_at_call 97; refine (hexValue_any _ _ (by omega) (by omega)).mono ?_; rintro e w' ⟨rfl, rfl⟩)
            go_round
            case rel => exact ⟨k + 1, by omega, by go_num, congrArg (Value.int .i64) (by rw [hvq.out]), Hall2.out⟩
            case measure => simp [intOf]; omega
        · obtain rfl : k = s.size := by omega
          have ht : s.data.toList.take s.size = s.data.toList := List.take_of_length_le (by rw [len_data]; exact Nat.le_refl _)
          rw [ht] at Hall hv0 hv1 ⊢
          have hfin : Hid (rhexN s = hval s.data.toList ∧ rhexOk s = true) := rhex_yes (by omega) (by omega) Hall.out
          clear ht
          generalize hval s.data.toList = v at *
          go_wp2
          go_ret2
          exact ⟨ret_ib6 hfin.out.1 hfin.out.2, rfl⟩
set_option maxHeartbeats 1000000 in
theorem sReadHex_any (s : ByteArray) (w : World) (hs : s.size ≤ maxLen) :
    Calls Tryz.prog 68 #[.string s] w fun e w' => e = .returned (.tuple #[.int .i64 (rhexN s), .bool (rhexOk s)]) ∧ w' = w := by
  unfold maxLen at hs
  by_cases h0 : s.size = 0
  · have hr := rhex_size (Or.inl h0)
    have hne : ((s.size : Int) == 0) = true := by rw [beq_iff_eq]; omega
    rw [hr.1, hr.2]
    clear hr
    go_enter Tryz.func68, Tryz.ntmps68
    go_wp2
    go_ret2
    exact ⟨rfl, rfl⟩
  · have hne2 : ((s.size : Int) == 0) = false := by rw [Bool.eq_false_iff, ne_eq, beq_iff_eq]; omega
    by_cases hbig : (7 : Int) < (s.size : Int)
    · have hr := rhex_size (s := s) (Or.inr (by omega))
      rw [hr.1, hr.2]
      clear hr
      go_enter Tryz.func68, Tryz.ntmps68
      go_wp2
      go_ret2
      exact ⟨rfl, rfl⟩
    · go_enter Tryz.func68, Tryz.ntmps68
      go_wp2
      clear hne2
      go_loop [4, 5] (fun n i => ∃ k : Nat, k ≤ s.size ∧ i = .int .i64 k ∧ n = .int .i64 (hval (s.data.toList.take k)) ∧ allHex (s.data.toList.take k) = true) (fun _ i => s.size - (intOf i).toNat)
      case atStart => exact ⟨0, Nat.zero_le _, rfl, rfl, rfl⟩
      case round =>
        obtain ⟨k, hk, rfl, rfl, hall⟩ := hrel
        have Hall : Hid (allHex (s.data.toList.take k) = true) := hall
        obtain ⟨hv0, hv1⟩ := hval_small s k (by omega) hall
        clear hall
        by_cases hlt : k < s.size
        · have hlo := u8_lo s[k]
          have hhi := u8_hi s[k]
          have hn0 : hexV (s[k].toNat : Int) = hex8 (at8 s k) := by rw [at8_eq s k hlt]; rfl
          by_cases hg0 : hex8 (at8 s k) < 0
          · have hfin : Hid (rhexN s = 0 ∧ rhexOk s = false) := rhex_no hlt hg0
            have hneg : hexV (s[k].toNat : Int) < 0 := by rw [hn0]; exact hg0
            clear hg0 hn0
            generalize hval (s.data.toList.take k) = v at *
            have hno : digP (s[k].toNat : Int) = false ∧ (lowI (s[k].toNat : Int) < 97 ∨ 102 < lowI (s[k].toNat : Int)) := hexV_neg hneg
            obtain ⟨hd, hl⟩ := hno
            rw [← digP_low _ hlo] at hd
            clear hneg
            have hl2 : lowI (s[k].toNat : Int) < 97 ∨ (102 < lowI (s[k].toNat : Int) ∧ decide (lowI (s[k].toNat : Int) ≤ 102) = false) := by
              rcases hl with h | h
              · exact Or.inl h
              · exact Or.inr ⟨h, by simp; omega⟩
            rcases hl2 with hl | ⟨hl, hl3⟩
            all_goals
              go_wp2_with (first | (go_at_call 86; refine (l1lower_any _ _ (by omega) (by omega)).mono ?_; rintro e w' ⟨rfl, rfl⟩) | (go_at_call 17; refine (l1digit_any _ _).mono ?_; rintro e w' ⟨rfl, rfl⟩))
              go_ret2
              exact ⟨ret_ib6 hfin.out.1 hfin.out.2, rfl⟩
          · have hvq : Hid (hval (s.data.toList.take (k + 1)) = hval (s.data.toList.take k) * 16 + hexV (s[k].toNat : Int)) := by
              show _ = _
              rw [allDig_take_succ s k hlt, hval_snoc, hn0]
            have Hall2 : Hid (allHex (s.data.toList.take (k + 1)) = true) := by
              show _ = _
              rw [allDig_take_succ s k hlt]; exact allHex_snoc _ _ Hall.out (by omega)
            have hpos : 0 ≤ hexV (s[k].toNat : Int) := by rw [hn0]; omega
            have hp15 := (hexV_bd (s[k].toNat : Int)).2
            clear hg0 hn0
            generalize hval (s.data.toList.take k) = v at *
            have hyes := hexV_pos hpos
            rcases hyes with ⟨hd, he⟩ | ⟨hd, h97, h102, he⟩
            · have hd' : digP (lowI (s[k].toNat : Int)) = true := by rw [digP_low _ hlo]; exact hd
              have hlow := lowI_dig hd
              have hb := digP_iff.1 hd
              have he' : Hid (hexV (s[k].toNat : Int) = (s[k].toNat : Int) - 48) := he
              have hlo2 : lowI (s[k].toNat : Int) ≤ 57 := by rw [hlow]; exact hb.2
              have hlo3 : 48 ≤ lowI (s[k].toNat : Int) := by rw [hlow]; exact hb.1
              have Hlow : Hid (lowI (s[k].toNat : Int) = (s[k].toNat : Int)) := hlow
              clear he hd hb hlow
              go_wp2_with (first | (go_at_call 86; refine (l1lower_any _ _ (by omega) (by omega)).mono ?_; rintro e w' ⟨rfl, rfl⟩) | (go_at_call 17; refine (l1digit_any _ _).mono ?_; rintro e w' ⟨rfl, rfl⟩))
              go_round
              case rel => exact ⟨k + 1, by omega, by go_num, congrArg (Value.int .i64) (by rw [hvq.out, he'.out, Hlow.out]), Hall2.out⟩
              case measure => simp [intOf]; omega
            · have hd' : digP (lowI (s[k].toNat : Int)) = false := by rw [digP_low _ hlo]; exact hd
              have he' : Hid (hexV (s[k].toNat : Int) = lowI (s[k].toNat : Int) - 87) := he
              clear he hd
              go_wp2_with (first | (go_at_call 86; refine (l1lower_any _ _ (by omega) (by omega)).mono ?_; rintro e w' ⟨rfl, rfl⟩) | (go_at_call 17; refine (l1digit_any _ _).mono ?_; rintro e w' ⟨rfl, rfl⟩))
              go_round
              case rel => exact ⟨k + 1, by omega, by go_num, congrArg (Value.int .i64) (by rw [hvq.out, he'.out]; omega), Hall2.out⟩
              case measure => simp [intOf]; omega
        · obtain rfl : k = s.size := by omega
          have ht : s.data.toList.take s.size = s.data.toList := List.take_of_length_le (by rw [len_data]; exact Nat.le_refl _)
          rw [ht] at Hall hv0 hv1 ⊢
          have hfin : Hid (rhexN s = hval s.data.toList ∧ rhexOk s = true) := rhex_yes (by omega) (by omega) Hall.out
          clear ht
          generalize hval s.data.toList = v at *
          go_wp2
          go_ret2
          exact ⟨ret_ib6 hfin.out.1 hfin.out.2, rfl⟩
end Go.Proofs.YtmhohponikolfabGreatDoor
namespace Go.Proofs.YtmhohponikolfabGreatDoor
set_option linter.unusedVariables false
set_option linter.unusedSimpArgs false
open Go.RowKit

def c8 (b : UInt8) : Value := .int .u8 (b.toNat : Int)
/-- The value v is a slice of the call's own that holds the bytes l; nothing that was there in w0 has turned. -/
structure Buf (w0 w : World) (v : Value) (l : List UInt8) : Prop where
  below : Below w0.heap.size w0 w
  own : w.ownsRow w0.heap.size 5 1 v l.length (l.map c8)

theorem Tryz.infoU8 : (Tryz.prog.info? 5).map (fun i => (i.zero, i.size, i.bytes)) = some (some (.int .u8 0), 1, 1) := by kernel_rfl

theorem Buf.start (w : World) : Buf w w (.slice none 0 0) [] := ⟨Below.refl _ _, World.ownsRow_nil _ _ _ _⟩
theorem Buf.alloc {w0 w : World} {v : Value} {l : List UInt8} (h : Buf w0 w v l) (o : Obj) : Buf w0 (w.alloc o) v l :=
  ⟨h.below.alloc h.below.size o, h.own.alloc o⟩
theorem Buf.one (w : World) (n : Int) (y : UInt8) (hy : n = (y.toNat : Int)) : Buf w (w.alloc (.cells #[.int .u8 n] 5)) (.slice (some ⟨w.heap.size, 0, none⟩) 1 1) [y] := by
  subst hy
  exact ⟨(Below.refl _ _).alloc (Nat.le_refl _) _, ⟨by simp, .inr ⟨w.heap.size, 1, #[.int .u8 (y.toNat : Int)], rfl, Nat.le_refl _, heap_alloc_new w _, Nat.le_refl _, by decide, by simp, by simp [c8]⟩⟩⟩
theorem Buf.form {w0 w : World} {v : Value} {l : List UInt8} (h : Buf w0 w v l) : ∃ (a : Option Addr) (c : Nat), v = .slice a l.length c := by
  rcases h.own.2 with ⟨h1, h2⟩ | ⟨g, cap, cur, h1, _⟩
  · exact ⟨none, 0, by rw [h1, h2]⟩
  · exact ⟨_, _, h1⟩
theorem Buf.text {w0 w : World} {v : Value} {l : List UInt8} (h : Buf w0 w v l) :
    (convert 47 9 v).run Tryz.prog w = .ok (.string ⟨l.toArray⟩) w := by
  have hl : l.map (fun b => UInt8.ofNat ((b.toNat : Int)).toNat) = l := by
    conv => rhs; rw [← List.map_id l]
    apply List.map_congr_left
    intro b _
    simp
  rcases h.own.2 with ⟨h1, h2⟩ | ⟨g, cap, cur, h1, _, hh, _, _, _, ht⟩
  · have : l = [] := List.length_eq_zero_iff.1 h2
    subst this
    rw [h1]
    exact run_convert_bytes_nil (P := Tryz.prog) w 47 5 Tryz.underlying47 Tryz.underlying5 0 0 9 Tryz.underlying9
  · subst h1
    have hc : ∀ i, i < l.length → w.cell? ⟨g, 0 + i, none⟩ = some (.int .u8 ((l.map fun b => (b.toNat : Int)).getD i 0)) := by
      intro i hi
      have := h.own.cells (g := g) rfl i (.int .u8 ((l[i].toNat : Int))) (by simp [c8, List.getElem?_eq_getElem hi])
      rw [Addr.add_lit] at this
      rw [this]
      simp [List.getD, List.getElem?_eq_getElem hi]
    have := run_convert_bytes_arg (P := Tryz.prog) w 47 5 Tryz.underlying47 Tryz.underlying5 g 0 l.length cap (l.map fun b => (b.toNat : Int)) (by simp) hc 9 Tryz.underlying9
    rw [this]
    simp only [strOfNums, List.map_map]
    exact congrArg (fun x : Array UInt8 => Result.ok (Value.string ⟨x⟩) w) (congrArg List.toArray hl)
theorem wp_app {ops : Array Oper} {rest : List Oper} {o : Oper} {a : Act} {Q : Exit → Act → World → Prop} {w0 W : World} (hgd : o.guard = none) (s x : Operand)
    (ho : o.op = .call { callee := .builtin .append, args := #[s, x], argTypes := #[47, 47] }) (v : Value) (l : List UInt8) (hs : a.eval s = v) (hbuf : Buf w0 W v l)
    (n : Int) (y : UInt8) (hy : n = (y.toNat : Int)) (hx : a.eval x = .slice (some ⟨W.heap.size, 0, none⟩) 1 1) (hlen : l.length ≤ 1099511627776)
    (h : ∀ v' W', Buf w0 W' v' (l ++ [y]) → wpList Tryz.prog ops Q rest (a.put o.dst v') W') :
    wpList Tryz.prog ops Q (o :: rest) a (W.alloc (.cells #[.int .u8 n] 5)) := by
  subst hy
  obtain ⟨i0, hi, hz0, hz1, hz2⟩ := info_parts Tryz.infoU8
  refine wpList_append_own _ hgd s x 47 ho w0.heap.size 5 i0 (.int .u8 0) 1 1 Tryz.underlying47 hi hz0 hz1 hz2 rfl (by decide) v l.length (l.map c8) hs (hbuf.own.alloc _) ⟨W.heap.size, 0, none⟩ 1 1 [c8 y] hx rfl (cell_one_new _ _ _) (fun u hu => by simp at hu; subst hu; rfl) (by unfold maxLen; omega) (by omega) (by have := hbuf.below.size; simp; omega) ?_
  intro v' W' hown hgrow _
  refine h v' W' ⟨?_, ?_⟩
  · refine (hbuf.alloc _).below.grown hgrow (by have := hbuf.below.size; simp; omega) ?_
    intro k hk
    exact (hbuf.own.lt k hk).1
  · rw [List.length_append, List.length_singleton, List.map_append]
    exact hown
end Go.Proofs.YtmhohponikolfabGreatDoor
namespace Go.Proofs
open Go.Shelf
def Tryz.lays158_ren : Go.Shelf.Ren := ⟨fun | 158 => 84 | 165 => 42 | 166 => 43 | 167 => 93 | 169 => 44 | 230 => 94 | 203 => 95 | 240 => 61 | 241 => 62 | 197 => 74 | 118 => 99 | 168 => 100 | 270 => 101 | 262 => 102 | 276 => 76 | 277 => 77 | 260 => 88 | 242 => 107 | 313 => 108 | 278 => 114 | 274 => 115 | 275 => 116 | n => n, fun | 9 => 9 | 4 => 4 | 3 => 3 | 5 => 5 | 72 => 52 | 0 => 0 | 76 => 56 | 75 => 55 | 107 => 93 | 70 => 50 | 20 => 20 | 37 => 47 | 127 => 67 | 21 => 21 | 105 => 76 | 164 => 78 | 162 => 113 | 203 => 111 | 119 => 95 | 46 => 65 | 139 => 98 | 138 => 97 | 51 => 72 | 160 => 118 | 208 => 125 | 206 => 123 | 80 => 58 | n => n, fun | 13 => 3 | 3 => 1 | 4 => 2 | n => n⟩
theorem Tryz.lays158 : Go.Proofs.Lays.n158 Tryz.prog Tryz.lays158_ren := {
  mixed := by kernel_rfl
  f118 := Tryz.func99.trans (congrArg some (by kernel_rfl))
  f158 := Tryz.func84.trans (congrArg some (by kernel_rfl))
  f165 := Tryz.func42.trans (congrArg some (by kernel_rfl))
  f166 := Tryz.func43.trans (congrArg some (by kernel_rfl))
  f167 := Tryz.func93.trans (congrArg some (by kernel_rfl))
  f168 := Tryz.func100.trans (congrArg some (by kernel_rfl))
  f169 := Tryz.func44.trans (congrArg some (by kernel_rfl))
  f197 := Tryz.func74.trans (congrArg some (by kernel_rfl))
  f203 := Tryz.func95.trans (congrArg some (by kernel_rfl))
  f230 := Tryz.func94.trans (congrArg some (by kernel_rfl))
  f240 := Tryz.func61.trans (congrArg some (by kernel_rfl))
  f241 := Tryz.func62.trans (congrArg some (by kernel_rfl))
  f242 := Tryz.func107.trans (congrArg some (by kernel_rfl))
  f260 := Tryz.func88.trans (congrArg some (by kernel_rfl))
  f262 := Tryz.func102.trans (congrArg some (by kernel_rfl))
  f270 := Tryz.func101.trans (congrArg some (by kernel_rfl))
  f274 := Tryz.func115.trans (congrArg some (by kernel_rfl))
  f275 := Tryz.func116.trans (congrArg some (by kernel_rfl))
  f276 := Tryz.func76.trans (congrArg some (by kernel_rfl))
  f277 := Tryz.func77.trans (congrArg some (by kernel_rfl))
  f278 := Tryz.func114.trans (congrArg some (by kernel_rfl))
  f313 := Tryz.func108.trans (congrArg some (by kernel_rfl))
  t0 := Tryz.underlying0
  a0 := Tryz.isAgg0
  z0 := Tryz.sizeOf0
  v0 := Tryz.zeroValue0
  t3 := Tryz.underlying3
  a3 := Tryz.isAgg3
  z3 := Tryz.sizeOf3
  v3 := Tryz.zeroValue3
  t4 := Tryz.underlying4
  a4 := Tryz.isAgg4
  z4 := Tryz.sizeOf4
  v4 := Tryz.zeroValue4
  t5 := Tryz.underlying5
  a5 := Tryz.isAgg5
  z5 := Tryz.sizeOf5
  v5 := Tryz.zeroValue5
  t9 := Tryz.underlying9
  a9 := Tryz.isAgg9
  z9 := Tryz.sizeOf9
  v9 := Tryz.zeroValue9
  t20 := Tryz.underlying20
  a20 := Tryz.isAgg20
  z20 := Tryz.sizeOf20
  v20 := Tryz.zeroValue20
  t21 := Tryz.underlying21
  a21 := Tryz.isAgg21
  z21 := Tryz.sizeOf21
  v21 := Tryz.zeroValue21
  t37 := Tryz.underlying47
  a37 := Tryz.isAgg47
  z37 := Tryz.sizeOf47
  v37 := Tryz.zeroValue47
  t46 := Tryz.underlying65
  a46 := Tryz.isAgg65
  z46 := Tryz.sizeOf65
  v46 := Tryz.zeroValue65
  t51 := Tryz.underlying72
  a51 := Tryz.isAgg72
  z51 := Tryz.sizeOf72
  v51 := Tryz.zeroValue72
  t70 := Tryz.underlying50
  a70 := Tryz.isAgg50
  z70 := Tryz.sizeOf50
  v70 := Tryz.zeroValue50
  t72 := Tryz.underlying52
  a72 := Tryz.isAgg52
  z72 := Tryz.sizeOf52
  v72 := Tryz.zeroValue52
  t75 := Tryz.underlying55
  a75 := Tryz.isAgg55
  z75 := Tryz.sizeOf55
  v75 := Tryz.zeroValue55
  t76 := Tryz.underlying56
  a76 := Tryz.isAgg56
  z76 := Tryz.sizeOf56
  v76 := Tryz.zeroValue56
  t105 := Tryz.underlying76
  a105 := Tryz.isAgg76
  z105 := Tryz.sizeOf76
  v105 := Tryz.zeroValue76
  t107 := Tryz.underlying93
  a107 := Tryz.isAgg93
  z107 := Tryz.sizeOf93
  v107 := Tryz.zeroValue93
  t119 := Tryz.underlying95
  a119 := Tryz.isAgg95
  z119 := Tryz.sizeOf95
  t127 := Tryz.underlying67
  a127 := Tryz.isAgg67
  z127 := Tryz.sizeOf67
  v127 := Tryz.zeroValue67
  t138 := Tryz.underlying97
  a138 := Tryz.isAgg97
  z138 := Tryz.sizeOf97
  v138 := Tryz.zeroValue97
  t139 := Tryz.underlying98
  a139 := Tryz.isAgg98
  z139 := Tryz.sizeOf98
  v139 := Tryz.zeroValue98
  t160 := Tryz.underlying118
  a160 := Tryz.isAgg118
  z160 := Tryz.sizeOf118
  v160 := Tryz.zeroValue118
  t162 := Tryz.underlying113
  a162 := Tryz.isAgg113
  z162 := Tryz.sizeOf113
  v162 := Tryz.zeroValue113
  t164 := Tryz.underlying78
  a164 := Tryz.isAgg78
  z164 := Tryz.sizeOf78
  v164 := Tryz.zeroValue78
  t203 := Tryz.underlying111
  a203 := Tryz.isAgg111
  z203 := Tryz.sizeOf111
  v203 := Tryz.zeroValue111
  t206 := Tryz.underlying123
  a206 := Tryz.isAgg123
  z206 := Tryz.sizeOf123
  v206 := Tryz.zeroValue123
  t208 := Tryz.underlying125
  a208 := Tryz.isAgg125
  z208 := Tryz.sizeOf125
  v208 := Tryz.zeroValue125
  g3 := by kernel_rfl
  g4 := by kernel_rfl
  g13 := by kernel_rfl }
def Tryz.lays150_ren : Go.Shelf.Ren := ⟨fun | 150 => 48 | 153 => 65 | 152 => 78 | 226 => 79 | 227 => 80 | 228 => 81 | 137 => 89 | 119 => 90 | 224 => 56 | 225 => 55 | 217 => 54 | 266 => 71 | n => n, fun | 9 => 9 | 4 => 4 | 3 => 3 | 5 => 5 | 21 => 21 | 117 => 85 | 116 => 84 | 0 => 0 | 46 => 65 | 124 => 90 | n => n, fun | n => n⟩
theorem Tryz.lays150 : Go.Proofs.Lays.n150 Tryz.prog Tryz.lays150_ren := {
  mixed := by kernel_rfl
  f119 := Tryz.func90.trans (congrArg some (by kernel_rfl))
  f137 := Tryz.func89.trans (congrArg some (by kernel_rfl))
  f150 := Tryz.func48.trans (congrArg some (by kernel_rfl))
  f152 := Tryz.func78.trans (congrArg some (by kernel_rfl))
  f153 := Tryz.func65.trans (congrArg some (by kernel_rfl))
  f217 := Tryz.func54.trans (congrArg some (by kernel_rfl))
  f224 := Tryz.func56.trans (congrArg some (by kernel_rfl))
  f225 := Tryz.func55.trans (congrArg some (by kernel_rfl))
  f226 := Tryz.func79.trans (congrArg some (by kernel_rfl))
  f227 := Tryz.func80.trans (congrArg some (by kernel_rfl))
  f228 := Tryz.func81.trans (congrArg some (by kernel_rfl))
  f266 := Tryz.func71.trans (congrArg some (by kernel_rfl))
  t0 := Tryz.underlying0
  a0 := Tryz.isAgg0
  z0 := Tryz.sizeOf0
  v0 := Tryz.zeroValue0
  t3 := Tryz.underlying3
  a3 := Tryz.isAgg3
  z3 := Tryz.sizeOf3
  v3 := Tryz.zeroValue3
  t4 := Tryz.underlying4
  a4 := Tryz.isAgg4
  z4 := Tryz.sizeOf4
  v4 := Tryz.zeroValue4
  t5 := Tryz.underlying5
  a5 := Tryz.isAgg5
  z5 := Tryz.sizeOf5
  v5 := Tryz.zeroValue5
  t9 := Tryz.underlying9
  a9 := Tryz.isAgg9
  z9 := Tryz.sizeOf9
  v9 := Tryz.zeroValue9
  t21 := Tryz.underlying21
  a21 := Tryz.isAgg21
  z21 := Tryz.sizeOf21
  v21 := Tryz.zeroValue21
  t46 := Tryz.underlying65
  a46 := Tryz.isAgg65
  z46 := Tryz.sizeOf65
  v46 := Tryz.zeroValue65
  t116 := Tryz.underlying84
  a116 := Tryz.isAgg84
  z116 := Tryz.sizeOf84
  t117 := Tryz.underlying85
  a117 := Tryz.isAgg85
  z117 := Tryz.sizeOf85
  v117 := Tryz.zeroValue85
  t124 := Tryz.underlying90
  a124 := Tryz.isAgg90
  z124 := Tryz.sizeOf90
  v124 := Tryz.zeroValue90 }
end Go.Proofs
namespace Go.Proofs.YtmhohponikolfabGreatDoor
set_option linter.unusedVariables false
set_option linter.unusedSimpArgs false
open Go.RowKit
theorem inL_opn (n : Int) (h0 : 0 ≤ n) (h1 : n ≤ 255) : decide (0 ≤ Lib.indexByte opnL n.toNat.toUInt8) = inL opnL n := by
  have hn : ((n.toNat.toUInt8).toNat : Int) = n := by simp; omega
  have h := Lib.contains_iff_indexByte opnL n.toNat.toUInt8
  rw [← h]
  unfold inL
  rw [Bool.eq_iff_iff, List.contains_iff_mem, List.any_eq_true]
  constructor
  · intro hm
    exact ⟨_, hm, by rw [beq_iff_eq]; exact hn⟩
  · rintro ⟨x, hx, he⟩
    rw [beq_iff_eq] at he
    have : x = n.toNat.toUInt8 := by
      apply UInt8.toNat_inj.1
      omega
    rw [← this]; exact hx
set_option maxRecDepth 100000 in
set_option maxHeartbeats 1000000 in
theorem IndexByteN_any (s : ByteArray) (c : Int) (w : World) :
    Calls Tryz.prog 54 #[.string s, .int .u8 c] w fun e w' => e = .returned (.int .i64 (Lib.indexByte s.data.toList c.toNat.toUInt8)) ∧ w' = w := by
  go_enter Tryz.func54, Tryz.ntmps54
  go_wp2
  rw [run_callFunc_extern Tryz.func71 (by kernel_rfl) (by kernel_rfl) (by kernel_rfl) (e := Extern.BytealgIndexByte.indexByte) (by kernel_rfl), Lib.run_indexByteString]
  simp only [Result.andThen]
  rw [Oper.upon_value]
  go_wp2
  go_ret
  exact ⟨rfl, rfl⟩
set_option maxHeartbeats 1000000 in
theorem sIndexByte_any (s : ByteArray) (c : Int) (w : World) :
    Calls Tryz.prog 89 #[.string s, .int .u8 c] w fun e w' => e = .returned (.int .i64 (Lib.indexByte s.data.toList c.toNat.toUInt8)) ∧ w' = w := by
  go_enter Tryz.func89, Tryz.ntmps89
  go_wp2_with (go_at_call 54; refine (IndexByteN_any _ _ _).mono ?_; rintro e w' ⟨rfl, rfl⟩)
  go_ret
  exact ⟨rfl, rfl⟩
theorem opnP_let {n : Int} (h : letP n = true) : opnP n = true := by simp [opnP, h]
theorem opnP_dig {n : Int} (h : digP n = true) : opnP n = true := by simp [opnP, h]
theorem opnP_sig {n : Int} (h1 : letP n = false) (h2 : digP n = false) : opnP n = inL opnL n := by simp [opnP, h1, h2]
set_option maxHeartbeats 1000000 in
theorem openByte_any (n : Int) (w : World) (h0 : 0 ≤ n) (h1 : n ≤ 255) :
    Calls Tryz.prog 83 #[.int .u8 n] w fun e w' => e = .returned (.bool (opnP n)) ∧ w' = w := by
  have HI := hideB2 (fun W => sIndexByte_any ⟨#[45, 46, 95, 126]⟩ n W)
  have HO := hideB2 (inL_opn n h0 h1)
  change Hid (∀ W, Calls _ _ _ W fun e w' => e = .returned (.int .i64 (Lib.indexByte opnL n.toNat.toUInt8)) ∧ w' = W) at HI
  generalize Lib.indexByte opnL n.toNat.toUInt8 = x at *
  cases hl : letP n
  · cases hd : digP n
    · rw [opnP_sig hl hd]
      have H2 := hideB2 (fun W => letterByte_any n W h0 h1)
      have H3 := hideB2 (fun W => digitByte_any n W)
      have HL := hideB2 hl
      have HD := hideB2 hd
      rw [hl] at H2
      rw [hd] at H3
      clear hl hd
      go_enter Tryz.func83, Tryz.ntmps83
      go_wp2_with (first | (go_at_call 92; refine (H2.out _).mono ?_; rintro e w' ⟨rfl, rfl⟩) | (go_at_call 40; refine (H3.out _).mono ?_; rintro e w' ⟨rfl, rfl⟩) | (go_at_call 89; refine (HI.out _).mono ?_; rintro e w' ⟨rfl, rfl⟩))
      go_ret
      exact ⟨ret_bool HO.out.symm, rfl⟩
    · rw [opnP_dig hd]
      have H2 := hideB2 (fun W => letterByte_any n W h0 h1)
      have H3 := hideB2 (fun W => digitByte_any n W)
      rw [hl] at H2
      rw [hd] at H3
      clear hl hd
      go_enter Tryz.func83, Tryz.ntmps83
      go_wp2_with (first | (go_at_call 92; refine (H2.out _).mono ?_; rintro e w' ⟨rfl, rfl⟩) | (go_at_call 40; refine (H3.out _).mono ?_; rintro e w' ⟨rfl, rfl⟩))
      go_ret
      exact ⟨rfl, rfl⟩
  · rw [opnP_let hl]
    have H2 := hideB2 (fun W => letterByte_any n W h0 h1)
    rw [hl] at H2
    clear hl
    go_enter Tryz.func83, Tryz.ntmps83
    go_wp2_with (go_at_call 92; refine (H2.out _).mono ?_; rintro e w' ⟨rfl, rfl⟩)
    go_ret
    exact ⟨rfl, rfl⟩
set_option maxHeartbeats 1000000 in
theorem l7free_any (n : Int) (w : World) (h0 : 0 ≤ n) (h1 : n ≤ 255) :
    Calls Tryz.prog 69 #[.int .u8 n] w fun e w' => e = .returned (.bool (opnP n)) ∧ w' = w := by
  have HH := hideB2 (fun W => l1has_any ⟨#[45, 46, 95, 126]⟩ n W (by decide))
  change Hid (∀ W, Calls _ _ _ W fun e w' => e = .returned (.bool (inL opnL n)) ∧ w' = W) at HH
  have H3 := hideB2 (fun W => l1digit_any n W)
  have HL := hideB2 (fun W => l1lower_any n W h0 h1)
  have HP : opnP n = (letP n || (digP n || inL opnL n)) := by unfold opnP; rw [Bool.or_assoc]
  rw [HP]
  unfold letP
  clear HP
  generalize lowI n = m at *
  generalize inL opnL n = z at *
  generalize digP n = d at *
  by_cases a1 : 97 ≤ m
  · by_cases a2 : m ≤ 122
    · rw [decide_eq_true a1, decide_eq_true a2]
      go_enter Tryz.func69, Tryz.ntmps69
      go_wp2_with (first | (go_at_call 86; refine (HL.out _).mono ?_; rintro e w' ⟨rfl, rfl⟩) | (go_at_call 17; refine (H3.out _).mono ?_; rintro e w' ⟨rfl, rfl⟩) | (go_at_call 87; refine (HH.out _).mono ?_; rintro e w' ⟨rfl, rfl⟩))
      go_ret
      exact ⟨rfl, rfl⟩
    · have d2 := decide_eq_false a2
      rw [d2, Bool.and_false, Bool.false_or]
      cases d
      · go_enter Tryz.func69, Tryz.ntmps69
        go_wp2_with (first | (go_at_call 86; refine (HL.out _).mono ?_; rintro e w' ⟨rfl, rfl⟩) | (go_at_call 17; refine (H3.out _).mono ?_; rintro e w' ⟨rfl, rfl⟩) | (go_at_call 87; refine (HH.out _).mono ?_; rintro e w' ⟨rfl, rfl⟩))
        go_ret
        exact ⟨rfl, rfl⟩
      · go_enter Tryz.func69, Tryz.ntmps69
        go_wp2_with (first | (go_at_call 86; refine (HL.out _).mono ?_; rintro e w' ⟨rfl, rfl⟩) | (go_at_call 17; refine (H3.out _).mono ?_; rintro e w' ⟨rfl, rfl⟩) | (go_at_call 87; refine (HH.out _).mono ?_; rintro e w' ⟨rfl, rfl⟩))
        go_ret
        exact ⟨rfl, rfl⟩
  · rw [decide_eq_false a1, Bool.false_and, Bool.false_or]
    cases d
    · go_enter Tryz.func69, Tryz.ntmps69
      go_wp2_with (first | (go_at_call 86; refine (HL.out _).mono ?_; rintro e w' ⟨rfl, rfl⟩) | (go_at_call 17; refine (H3.out _).mono ?_; rintro e w' ⟨rfl, rfl⟩) | (go_at_call 87; refine (HH.out _).mono ?_; rintro e w' ⟨rfl, rfl⟩))
      go_ret
      exact ⟨rfl, rfl⟩
    · go_enter Tryz.func69, Tryz.ntmps69
      go_wp2_with (first | (go_at_call 86; refine (HL.out _).mono ?_; rintro e w' ⟨rfl, rfl⟩) | (go_at_call 17; refine (H3.out _).mono ?_; rintro e w' ⟨rfl, rfl⟩) | (go_at_call 87; refine (HH.out _).mono ?_; rintro e w' ⟨rfl, rfl⟩))
      go_ret
      exact ⟨rfl, rfl⟩
/-- A letter a to z as its great one, on numbers. -/
def upI (n : Int) : Int := if 97 ≤ n ∧ n ≤ 122 then n - 32 else n
theorem up8_toNat (b : UInt8) : ((up8 b).toNat : Int) = upI (b.toNat : Int) := by
  unfold up8 upI
  have hb := b.toNat_lt
  by_cases h : 97 ≤ b.toNat ∧ b.toNat ≤ 122
  · rw [if_pos h, if_pos (by omega)]
    rw [UInt8.toNat_sub]
    simp
    omega
  · rw [if_neg h, if_neg (by omega)]
set_option maxHeartbeats 1000000 in
theorem l7upper_any (n : Int) (w : World) (h0 : 0 ≤ n) (h1 : n ≤ 255) :
    Calls Tryz.prog 70 #[.int .u8 n] w fun e w' => e = .returned (.int .u8 (upI n)) ∧ w' = w := by
  unfold upI
  by_cases a1 : 97 ≤ n
  · by_cases a2 : n ≤ 122
    · rw [if_pos ⟨a1, a2⟩]
      have e1 : IntKind.u8.wrap (n - 32) = n - 32 := by rw [IntKind.wrap_u8]; omega
      go_enter Tryz.func70, Tryz.ntmps70
      go_wp2
      go_ret
      exact ⟨ret_int (by first | rfl | omega), rfl⟩
    · rw [if_neg (by omega)]
      go_enter Tryz.func70, Tryz.ntmps70
      go_wp2
      go_ret
      exact ⟨rfl, rfl⟩
  · rw [if_neg (by omega)]
    go_enter Tryz.func70, Tryz.ntmps70
    go_wp2
    go_ret
    exact ⟨rfl, rfl⟩
/-- The two digits behind the first byte, as ReadHex takes them. -/
theorem rhex_two {s : ByteArray} (h : 3 ≤ s.size) (i : Nat) (hi : i + 3 ≤ s.size) : rhexOk (s.extract (i + 1) (i + 3)) = (hexP (at8 s (i + 1)) && hexP (at8 s (i + 2))) ∧ (rhexOk (s.extract (i + 1) (i + 3)) = true → rhexN (s.extract (i + 1) (i + 3)) = ((nam8 (at8 s (i + 1)) (at8 s (i + 2))).toNat : Int)) := by
  have e : (s.extract (i + 1) (i + 3)).data.toList = [at8 s (i + 1), at8 s (i + 2)] := by
    rw [Lib.extract_data, drop_at8 (i := i + 1) (by omega), drop_at8 (i := i + 1 + 1) (by omega), show i + 3 - (i + 1) = 2 by omega]
    rfl
  have hz : (s.extract (i + 1) (i + 3)).size = 2 := by rw [ByteArray.size_extract]; omega
  have e1 : rhexOk (s.extract (i + 1) (i + 3)) = (hexP (at8 s (i + 1)) && hexP (at8 s (i + 2))) := by
    unfold rhexOk
    rw [hz, e]
    simp [allHex, hexP]
  refine ⟨e1, fun ht => ?_⟩
  rw [e1, Bool.and_eq_true] at ht
  unfold rhexN
  rw [e1, ht.1, ht.2, Bool.and_self, if_pos rfl, e]
  have b1 := hexV_bd ((at8 s (i + 1)).toNat : Int)
  have b2 := hexV_bd ((at8 s (i + 2)).toNat : Int)
  have g1 : 0 ≤ hex8 (at8 s (i + 1)) := by simpa [hexP] using ht.1
  have g2 : 0 ≤ hex8 (at8 s (i + 2)) := by simpa [hexP] using ht.2
  have g3 : hex8 (at8 s (i + 1)) ≤ 15 := b1.2
  have g4 : hex8 (at8 s (i + 2)) ≤ 15 := b2.2
  unfold nam8
  simp only [hval, List.foldl_cons, List.foldl_nil]
  simp
  omega
end Go.Proofs.YtmhohponikolfabGreatDoor
namespace Go.Proofs.YtmhohponikolfabGreatDoor
set_option linter.unusedVariables false
set_option linter.unusedSimpArgs false
open Go.RowKit
theorem below_drewN {B : Nat} {w w' : World} (h : Below B w w') (n : Nat) : Below B w (w'.drewN n) := h.trans ⟨rfl, rfl, rfl, Nat.le_refl _, fun _ _ => rfl⟩
/-- A block that is known whole. -/
def Blk (w : World) (b : Nat) (c : Array Value) (t : TypeId) : Prop := w.heap[b]? = some (.cells c t (0, 0))
theorem Blk.lt {w : World} {b : Nat} {c : Array Value} {t : TypeId} (h : Blk w b c t) : b < w.heap.size := (Array.getElem?_eq_some_iff.1 h).1
theorem Blk.cell {w : World} {b : Nat} {c : Array Value} {t : TypeId} (h : Blk w b c t) (j : Nat) : w.cell? ⟨b, j, none⟩ = c[j]? := by
  unfold Blk at h
  simp [World.cell?, h]
theorem Blk.free {w : World} {b : Nat} {c : Array Value} {t : TypeId} (h : Blk w b c t) (j : Nat) : w.frozen? ⟨b, j, none⟩ = false := by
  unfold Blk at h
  simp [World.frozen?, h]
theorem Blk.new (w : World) (c : Array Value) (t : TypeId) : Blk (w.alloc (.cells c t)) w.heap.size c t := heap_alloc_last w _
theorem Blk.kept {w w' : World} {b B : Nat} {c : Array Value} {t : TypeId} (h : Blk w b c t) (k : Below B w w') (hb : b < B) : Blk w' b c t := by
  unfold Blk at *
  rw [k.block b hb]; exact h
theorem Blk.later {w w' : World} {b : Nat} {c : Array Value} {t : TypeId} (h : Blk w b c t) (k : Below w.heap.size w w') : Blk w' b c t := h.kept k h.lt
theorem Blk.alloc {w : World} {b : Nat} {c : Array Value} {t : TypeId} (h : Blk w b c t) (o : Obj) : Blk (w.alloc o) b c t := h.later (below_a1 w o)
theorem Blk.drew {w : World} {b : Nat} {c : Array Value} {t : TypeId} (h : Blk w b c t) : Blk w.drew b c t := h
theorem Blk.drewN {w : World} {b : Nat} {c : Array Value} {t : TypeId} (h : Blk w b c t) (n : Nat) : Blk (w.drewN n) b c t := h
theorem Blk.set {w : World} {b : Nat} {c : Array Value} {t : TypeId} (h : Blk w b c t) (j : Nat) (v : Value) : Blk (w.setCell ⟨b, j, none⟩ v) b (c.setIfInBounds j v) t := by
  rw [setCell_eq_setRow w b j c t (0, 0) v h]
  exact setRow_heap w b c _ t _ h
theorem Blk.other {w : World} {b b' : Nat} {c : Array Value} {t : TypeId} (h : Blk w b c t) (hne : b' ≠ b) (j : Nat) (v : Value) : Blk (w.setCell ⟨b', j, none⟩ v) b c t := by
  unfold Blk at *
  simp [World.setCell, Array.getElem?_modify, hne, h]

theorem Blk.load {P : Program} {w : World} {b : Nat} {c : Array Value} {t ty : TypeId} {n : Nat} {e : TypeId} (h : Blk w b c t) (hu : P.underlying ty = some (.array n e)) (hi : (P.info? ty).map (·.size) = some c.size) :
    (Instr.loadAt ty (.pointer (some ⟨b, 0, none⟩))).run P w = .ok (.agg c) w := by
  simp only [Instr.loadAt, Instr.sureAddr, Sem.run_bind, Sem.run_pure, Result.andThen]
  exact run_loadVar_row w b t ty c (0, 0) _ h hu rfl hi
theorem Blk.loadV {P : Program} {w : World} {b : Nat} {c : Array Value} {t ty : TypeId} {n : Nat} {e : TypeId} (h : Blk w b c t) (hu : P.underlying ty = some (.array n e)) (hi : (P.info? ty).map (·.size) = some c.size) :
    (loadVar ty ⟨b, 0, none⟩).run P w = .ok (.agg c) w := run_loadVar_row w b t ty c (0, 0) _ h hu rfl hi
theorem Blk.store {P : Program} {w : World} {b : Nat} {c c' : Array Value} {t ty : TypeId} (h : Blk w b c t) (hi : (P.info? ty).map (·.size) = some c'.size) (ho : c.size = c'.size) (h1 : c'.all (·.oneCell') = true) :
    (Instr.storeAt ty (.pointer (some ⟨b, 0, none⟩)) (.agg c')).run P w = .ok () (w.setRow b c') := by
  simp only [Instr.storeAt, Instr.sureAddr, Sem.run_bind, Sem.run_pure, Result.andThen]
  exact run_storeVar_row w b t ty c c' h hi ho h1
theorem Blk.row {w : World} {b : Nat} {c c' : Array Value} {t : TypeId} (h : Blk w b c t) : Blk (w.setRow b c') b c' t := setRow_heap w b c c' t _ h
theorem Blk.rowOther {w : World} {b b' : Nat} {c c' : Array Value} {t : TypeId} (h : Blk w b c t) (hne : b' ≠ b) : Blk (w.setRow b' c') b c t := by
  unfold Blk at *
  rw [setRow_other w b' b c' (by omega)]
  exact h

theorem wp_loadA {P : Program} {ops : Array Oper} {rest : List Oper} {o : Oper} {a : Act} {Q : Exit → Act → World → Prop} {w : World} {b : Nat} {c : Array Value} {t ty : TypeId} {n : Nat} {e : TypeId} (hg : o.guard = none) (x : Operand) (ho : o.op = Op.load ty x)
    (hx : a.eval x = .pointer (some ⟨b, 0, none⟩)) (hB : Blk w b c t) (hu : P.underlying ty = some (.array n e)) (hi : (P.info? ty).map (·.size) = some c.size)
    (k : wpList P ops Q rest (a.put o.dst (.agg c)) w) : wpList P ops Q (o :: rest) a w := by
  refine wpList_plain hg fun K hK => ?_
  have hrun := hB.load hu hi
  unfold Oper.wp
  simp [execOp, ho, hx, hrun, Result.andThen]
  exact hK _ _ k
theorem wp_storeA {P : Program} {ops : Array Oper} {rest : List Oper} {o : Oper} {a : Act} {Q : Exit → Act → World → Prop} {w : World} {b : Nat} {c c' : Array Value} {t ty : TypeId} (hg : o.guard = none) (hd : o.dst = none) (x y : Operand) (ho : o.op = Op.store ty x y)
    (hx : a.eval x = .pointer (some ⟨b, 0, none⟩)) (hy : a.eval y = .agg c') (hB : Blk w b c t) (hi : (P.info? ty).map (·.size) = some c'.size) (hs : c.size = c'.size) (h1 : c'.all (·.oneCell') = true)
    (k : wpList P ops Q rest a (w.setRow b c')) : wpList P ops Q (o :: rest) a w := by
  refine wpList_plain hg fun K hK => ?_
  have hrun := hB.store hi hs h1
  unfold Oper.wp
  simp [execOp, ho, hx, hy, hrun, Result.andThen]
  have e : a.put o.dst undef = a := by rw [hd]; rfl
  have k' : wpList P ops Q rest (a.put o.dst undef) (w.setRow b c') := by rw [e]; exact k
  exact hK _ _ k'
theorem results_cell1 {fn : Func} {p : Tmp} {ty : TypeId} (h : fn.results = #[.cell p ty]) (tmps : Array Value) (P : Program) (w : World) {b : Nat} {c : Array Value} {t : TypeId} {n : Nat} {e : TypeId} (hp : tmps.getD p undef = .pointer (some ⟨b, 0, none⟩)) (hB : Blk w b c t)
    (hu : P.underlying ty = some (.array n e)) (hi : (P.info? ty).map (·.size) = some c.size) : (results fn tmps).run P w = .ok (.agg c) w := by
  have hrun := hB.loadV hu hi
  have ha : (asAddr (tmps.getD p undef)).run P w = .ok ⟨b, 0, none⟩ w := by rw [hp]; rfl
  have he : (results fn tmps).run P w = ((asAddr (tmps.getD p undef)).run P w).andThen fun a w₁ => (loadVar ty a).run P w₁ := by
    simp only [results, h]
    simp [Sem.run_bind, Result.andThen]
  rw [he, ha]
  exact hrun
end Go.Proofs.YtmhohponikolfabGreatDoor
