/-
  Texts of this claim, put together.
-/
import Derived.Test.YtbmpeadoicjpnaaLsizem
import Derived.WalkKit
import Derived.Lib.Hide
import Derived.Deep.AppendLies
import Derived.Laws.AppendOwnNone
import Derived.Laws.BytesArg
import Derived.OwnWalk
import Derived.OneCell

/-
  Slices of numbers in memory; what is appended.
-/
namespace Go.Proofs.Ytbmpeadoicjpnaa
open Go.RowKit

def bV (x : Nat) : Value := .int .u8 (x : Nat)
def qV (x : Nat) : Value := .int .u64 (x : Nat)

/-- A slice value (its address a, its capacity) holds xs, told by f. -/
structure SlAt (f : Nat → Value) (M : Nat) (w : World) (a : Option Addr) (cap : Nat) (xs : List Nat) : Prop where
  lt : ∀ x ∈ xs, x < M
  fit : xs.length ≤ cap
  max : cap ≤ maxLen
  nil : a = none → cap = 0
  cell : ∀ i (h : i < xs.length), ∃ b off, a = some ⟨b, off, none⟩ ∧ b < w.heap.size ∧ w.cell? ⟨b, off + i, none⟩ = some (f xs[i])

theorem SlAt.below {f : Nat → Value} {M : Nat} {w w' : World} {a : Option Addr} {cap : Nat} {xs : List Nat} (h : SlAt f M w a cap xs) (hb : Below w.heap.size w w') : SlAt f M w' a cap xs :=
  ⟨h.lt, h.fit, h.max, h.nil, fun i hi => by
    obtain ⟨b, off, e, hl, hc⟩ := h.cell i hi
    exact ⟨b, off, e, Nat.lt_of_lt_of_le hl hb.size, (hb.cell (p := ⟨b, off + i, none⟩) hl).trans hc⟩⟩

theorem SlAt.carry {f : Nat → Value} {M : Nat} {w w' : World} {a : Option Addr} {cap : Nat} {xs : List Nat} (h : SlAt f M w a cap xs) (hs : w.heap.size ≤ w'.heap.size) (hb : ∀ ad, a = some ad → xs ≠ [] → ad.block < w.heap.size → w'.heap[ad.block]? = w.heap[ad.block]?) : SlAt f M w' a cap xs :=
  ⟨h.lt, h.fit, h.max, h.nil, fun i hi => by
    obtain ⟨b, off, e, hl, hc⟩ := h.cell i hi
    exact ⟨b, off, e, Nat.lt_of_lt_of_le hl hs, (World.cell?_of_block (w := w) (a := ⟨b, off + i, Option.none⟩) (hb ⟨b, off, Option.none⟩ e (fun h0 => by subst h0; simp at hi) hl)).trans hc⟩⟩

theorem SlAt.none (f : Nat → Value) (M : Nat) (w : World) : SlAt f M w none 0 [] :=
  ⟨by simp, by simp, by unfold maxLen; omega, fun _ => rfl, fun i h => by simp at h⟩

theorem add_spot (b o k : Nat) : (⟨b, o, Option.none⟩ : Addr).add k = ⟨b, o + k, Option.none⟩ := Addr.add_lit ..

theorem SlAt.drop {f : Nat → Value} {M : Nat} {w : World} {a : Option Addr} {cap : Nat} {xs : List Nat} (h : SlAt f M w a cap xs) (k : Nat) (hk : k ≤ xs.length) :
    SlAt f M w (if cap = k then a else a.map (·.add k)) (cap - k) (xs.drop k) := by
  have hf := h.fit
  have hm := h.max
  refine ⟨fun x hx => h.lt x (List.mem_of_mem_drop hx), by simp; omega, by omega, fun e => ?_, fun i hi => ?_⟩
  · by_cases h0 : cap = k
    · omega
    · rw [if_neg h0] at e
      have := h.nil (Option.map_eq_none_iff.1 e)
      omega
  · have hi' : k + i < xs.length := by simp at hi; omega
    obtain ⟨b, off, e, hl, hc⟩ := h.cell (k + i) hi'
    refine ⟨b, off + k, ?_, hl, ?_⟩
    · rw [if_neg (by omega), e]; simp [add_spot]
    · rw [List.getElem_drop, show off + k + i = off + (k + i) by omega]; exact hc

theorem SlAt.take {f : Nat → Value} {M : Nat} {w : World} {a : Option Addr} {cap : Nat} {xs : List Nat} (h : SlAt f M w a cap xs) (k : Nat) : SlAt f M w a cap (xs.take k) :=
  ⟨fun x hx => h.lt x (List.mem_of_mem_take hx), Nat.le_trans (by simp; omega) h.fit, h.max, h.nil, fun i hi => by
    have hi' : i < xs.length := by simp at hi; omega
    obtain ⟨b, off, e, hl, hc⟩ := h.cell i hi'
    exact ⟨b, off, e, hl, by rw [List.getElem_take]; exact hc⟩⟩

theorem SlAt.news {f : Nat → Value} {M : Nat} {w : World} {a : Option Addr} {cap : Nat} {xs : List Nat} (h : SlAt f M w a cap xs) : ∀ ad, a = some ad → ∀ j u, (xs.map f)[j]? = some u → w.cell? (ad.add j) = some u := by
  intro ad hd j u hu
  have hj : j < xs.length := by
    have := (List.getElem?_eq_some_iff.1 hu).1
    simpa using this
  obtain ⟨b, off, e, hl, hc⟩ := h.cell j hj
  rw [hd] at e
  cases e
  rw [add_spot]
  refine hc.trans ?_
  rw [List.getElem?_map, List.getElem?_eq_getElem hj] at hu
  exact hu
theorem SlAt.empty {f : Nat → Value} {M : Nat} {w : World} {a : Option Addr} {cap : Nat} {xs : List Nat} (h : SlAt f M w a cap xs) : a = Option.none → xs.length = 0 ∧ cap = 0 := by
  intro e
  have := h.nil e
  have := h.fit
  omega

theorem ones_b (xs : List Nat) : ∀ u ∈ xs.map bV, u.oneCell' = true := by
  intro u hu
  obtain ⟨x, _, rfl⟩ := List.mem_map.1 hu
  rfl
theorem ones_q (xs : List Nat) : ∀ u ∈ xs.map qV, u.oneCell' = true := by
  intro u hu
  obtain ⟨x, _, rfl⟩ := List.mem_map.1 hu
  rfl

/-- What the call itself has made. -/
theorem own_sl {f : Nat → Value} {M : Nat} {w : World} {base : Nat} {e : TypeId} {v : Value} {n : Nat} {xs : List Nat} (h : w.ownsRow base e 1 v n (xs.map f)) (hl : ∀ x ∈ xs, x < M) : n = xs.length ∧ ∃ a cap, v = .slice a xs.length cap ∧ SlAt f M w a cap xs := by
  have hn : n = xs.length := by have := h.1; simp at this; omega
  subst hn
  refine ⟨rfl, ?_⟩
  rcases h.2 with ⟨rfl, e⟩ | ⟨g, cap, cur, rfl, _, hg, h1, h2, _⟩
  · obtain rfl : xs = [] := List.length_eq_zero_iff.1 e
    exact ⟨Option.none, 0, rfl, SlAt.none _ _ _⟩
  · refine ⟨some ⟨g, 0, Option.none⟩, cap, rfl, hl, h1, h2, fun e => by simp at e, fun i hi => ⟨g, 0, rfl, (Array.getElem?_eq_some_iff.1 hg).1, ?_⟩⟩
    rw [Nat.zero_add, h.cellAt i (by omega), List.getElem?_map, List.getElem?_eq_getElem hi]; rfl

/-- append onto what the call owns, whatever is appended: nil, empty, or not. -/
theorem wpList_append_opt {P : Program} {w : World} {ops : Array Oper} {rest : List Oper} {o : Oper} {a : Act} {Q : Exit → Act → World → Prop} (hgd : o.guard = none) (s x : Operand) (t : TypeId)
    (ho : o.op = .call { callee := .builtin .append, args := #[s, x], argTypes := #[t, t] })
    (base : Nat) (e : TypeId) (i : TypeInfo) (z : Value) (size bytes : Nat) (ht : P.underlying t = some (.slice e)) (hi : P.info? e = some i) (hz : i.zero = some z)
    (hsize : i.size = size) (hby : i.bytes = bytes) (hzs : z.cells.size = size) (hsz : 0 < size)
    (v : Value) (n : Nat) (xs : List Value) (hs : a.eval s = v) (hown : w.ownsRow base e size v n xs)
    (ao : Option Addr) (m c : Nat) (news : List Value) (hx : a.eval x = .slice ao m c) (hl : news.length = m * size) (hnone : ao = none → m = 0 ∧ c = 0) (hnews : ∀ ad, ao = some ad → ∀ j u, news[j]? = some u → w.cell? (ad.add j) = some u) (h1 : ∀ u ∈ news, u.oneCell' = true)
    (h63 : n + m ≤ maxLen) (hbytes : (n + m) * bytes ≤ 140737488355328) (hbase : base ≤ w.heap.size)
    (h : ∀ v' w', w'.ownsRow base e size v' (n + m) (xs ++ news) → w.grownBy w' v.ownBlock → wpList P ops Q rest (a.put o.dst v') w') : wpList P ops Q (o :: rest) a w := by
  cases ao with
  | some ad => exact wpList_append_own w hgd s x t ho base e i z size bytes ht hi hz hsize hby hzs hsz v n xs hs hown ad m c news hx hl (hnews ad rfl) h1 h63 hbytes hbase fun v' w' h2 h3 _ => h v' w' h2 h3
  | none =>
    obtain ⟨rfl, rfl⟩ := hnone rfl
    have hn : news = [] := List.eq_nil_of_length_eq_zero (by simpa using hl)
    subst hn
    exact wpList_append_own_none hgd s x t ho base e i size ht hi v n xs hs hown hx (h v w (by simpa using hown) (World.grownBy.refl _ _))

theorem Try.infoB : (Try.prog.info? 5).map (fun i => (i.zero, i.size, i.bytes)) = some (some (.int .u8 0), 1, 1) := by kernel_rfl
theorem Try.infoQ : (Try.prog.info? 23).map (fun i => (i.zero, i.size, i.bytes)) = some (some (.int .u64 0), 1, 8) := by kernel_rfl

end Go.Proofs.Ytbmpeadoicjpnaa

/-
  What is written: the program's own writer and the document's.
-/
namespace Go.Proofs.Ytbmpeadoicjpnaa
open Go.RowKit

/-- What a call has made: a slice of its own. -/
def MadePost (f : Nat → Value) (M : Nat) (W : World) (ys : List Nat) (e : Ending) (w' : World) : Prop :=
  ∃ a cap, e = .returned (.slice a ys.length cap) ∧ SlAt f M w' a cap ys ∧ Below W.heap.size W w'

theorem or_more (m : Nat) : bits .or .u8 ((m : Int) % 256) 128 = ((m % 128 + 128 : Nat) : Int) := by
  have e := u8_or_nat (m % 256) 128 (by omega) (by decide)
  rw [show ((m % 256 : Nat) : Int) = (m : Int) % 256 by simp, show ((128 : Nat) : Int) = 128 from rfl] at e
  rw [e]
  congr 1
  have h := nat_join 7 128 (m % 128) (by decide) (by omega)
  by_cases hb : m % 256 < 128
  · rw [show m % 256 = m % 128 by omega, Nat.or_comm, h, Nat.add_comm]
  · have h2 : m % 256 = 128 + m % 128 := by omega
    rw [h2, ← h, Nat.or_comm, ← Nat.or_assoc, Nat.or_self, h]; omega

def PutRel (W : World) (bs : List Nat) (n : Nat) (v l : Value) (wr : World) : Prop :=
  ∃ (m : Nat) (ms : List Nat) (a : Option Addr) (c : Nat), m < 18446744073709551616 ∧ v = .int .u64 (m : Nat) ∧ l = .slice a ms.length c ∧ wr.ownsRow W.heap.size 5 1 l ms.length (ms.map bV) ∧ Below W.heap.size W wr ∧ ms ++ lebL m = bs ++ lebL n

theorem put_len {bs ms : List Nat} {m n : Nat} (h : ms ++ lebL m = bs ++ lebL n) (hn : n < 18446744073709551616) (hb : bs.length ≤ 1000000) : ms.length ≤ 1000009 := by
  have := congrArg List.length h
  have h1 := szN_word hn
  have h2 := szN_pos m
  unfold szN at h1 h2
  simp at this
  omega

theorem put_step {W wr w2 : World} {bs ms : List Nat} {m n : Nat} {v2 : Value} {o : Obj} {a : Option Addr} {c : Nat} (hm : ¬ m < 128) (hm2 : m < 18446744073709551616) (hB : Below W.heap.size W wr) (hO : wr.ownsRow W.heap.size 5 1 (.slice a ms.length c) ms.length (ms.map bV)) (he : ms ++ lebL m = bs ++ lebL n)
    (hown : w2.ownsRow W.heap.size 5 1 v2 (ms.length + 1) (ms.map bV ++ [bV (m % 128 + 128)])) (hgr : (wr.alloc o).grownBy w2 (Value.slice a ms.length c).ownBlock) : PutRel W bs n (.int .u64 ((m / 128 : Nat) : Int)) v2 w2 := by
  obtain ⟨g, cap, rfl, _, _⟩ := hown.form (by omega)
  refine ⟨m / 128, ms ++ [m % 128 + 128], some ⟨g, 0, none⟩, cap, by omega, rfl, by simp, by simpa using hown, (hB.alloc hB.size o).grown hgr (by have := hB.size; simp; omega) (fun b h => (hO.lt b h).1), ?_⟩
  rw [← he, lebL_hi hm]
  simp

theorem put_end {W wr w2 : World} {bs ms : List Nat} {m n : Nat} {v2 : Value} {o : Obj} {a : Option Addr} {c : Nat} (hm : m < 128) (hbs : ∀ x ∈ bs, x < 256) (hB : Below W.heap.size W wr) (hO : wr.ownsRow W.heap.size 5 1 (.slice a ms.length c) ms.length (ms.map bV)) (he : ms ++ lebL m = bs ++ lebL n)
    (hown : w2.ownsRow W.heap.size 5 1 v2 (ms.length + 1) (ms.map bV ++ [bV m])) (hgr : (wr.alloc o).grownBy w2 (Value.slice a ms.length c).ownBlock) : MadePost bV 256 W (bs ++ lebL n) (.returned v2) w2 := by
  rw [lebL_lo hm] at he
  have e : ms.map bV ++ [bV m] = (bs ++ lebL n).map bV := by rw [← he]; simp
  rw [e] at hown
  have hl : ∀ x ∈ bs ++ lebL n, x < 256 := fun x hx => (List.mem_append.1 hx).elim (hbs x) (lebL_lt n x)
  obtain ⟨_, a2, cap, rfl, hs⟩ := own_sl hown hl
  exact ⟨a2, cap, rfl, hs, (hB.alloc hB.size o).grown hgr (by have := hB.size; simp; omega) (fun b h => (hO.lt b h).1)⟩

set_option maxRecDepth 20000 in
set_option maxHeartbeats 2000000 in
theorem put_any (bs : List Nat) (ao : Option Addr) (cap n : Nat) (W : World) (hs : SlAt bV 256 W ao cap bs) (hn : n < 18446744073709551616) (hb : bs.length ≤ 1000000) :
    Calls Try.prog 69 #[.slice ao bs.length cap, .int .u64 (n : Nat)] W (MadePost bV 256 W (bs ++ lebL n)) := by
  obtain ⟨i0, hi0, hz0, hz1, hz2⟩ := info_parts Try.infoB
  have h10 := szN_word hn
  have S := Lib.hid hs
  clear hs
  go_enter Try.func69, Try.ntmps69
  go_wp2_with (first
    | (go_at_call 88; refine (size_any n _ hn).mono ?_; rintro e w' ⟨rfl, rfl⟩)
    | (refine wpList_make_own _ rfl _ _ 37 rfl W.heap.size 5 i0 (.int .u8 0) 1 Try.underlying37 hi0 hz0 hz1 .i64 .i64 _ (bs.length + szN n) rfl rfl (by simp) (by rw [hz2]; omega) (by unfold maxLen; omega) (Nat.le_refl _) ?_
       intro w1 hown1 hgr1
       have hb1 : Below W.heap.size W w1 := (Below.refl _ _).grown hgr1 (Nat.le_refl _) (fun k h => by cases h)
       have HB1 := Lib.hid hb1
       have HO1 := Lib.hid hown1
       clear hb1 hown1 hgr1)
    | (at_builtin; refine wpList_append_opt rfl (.tmp 12) (.tmp 13) 37 rfl W.heap.size 5 i0 (.int .u8 0) 1 1 Try.underlying37 hi0 hz0 hz1 hz2 rfl (by decide) _ _ _ rfl HO1.out _ _ _ (bs.map bV) rfl (by simp) S.out.empty (S.out.below HB1.out).news (ones_b _) (by unfold maxLen; omega) (by omega) HB1.out.size ?_
       intro v2 w2 hown2 hgr2
       have hb2 : Below W.heap.size W w2 := HB1.out.grown hgr2 HB1.out.size (fun k h => (HO1.out.lt k h).1)
       rw [Nat.zero_add, List.nil_append] at hown2
       have HO2 := Lib.hid hown2
       have HB2 := Lib.hid hb2
       clear hown2 hgr2 hb2))
  obtain ⟨_, a2, c2, rfl, _⟩ := own_sl HO2.out S.out.lt
  go_loopw [1, 5] (fun v l wr => PutRel W bs n v l wr) (fun v _ _ => (intOf v).toNat)
  case atStart => exact ⟨n, bs, a2, c2, hn, rfl, rfl, HO2.out, HB2.out, rfl⟩
  case round =>
    obtain ⟨m, ms, a, c, hm, rfl, rfl, hO, hB, he⟩ := hrel
    have hl := put_len he hn hb
    have HO := Lib.hid hO
    have HB := Lib.hid hB
    have HE := Lib.hid he
    clear hO hB he
    by_cases h128 : m < 128
    · have NB : Hid (0 ≤ 1) := Lib.hid (by decide)
      go_wp2_with (at_builtin; refine wpList_append_own _ rfl (.tmp 25) (.tmp 28) 37 rfl W.heap.size 5 i0 (.int .u8 0) 1 1 Try.underlying37 hi0 hz0 hz1 hz2 rfl (by decide) _ _ _ rfl (World.ownsRow.alloc HO.out _) ⟨wr.heap.size, 0, none⟩ 1 1 [bV m] rfl rfl (World.news_of_block (heap_alloc_new _ _)) (by simp [bV, Value.oneCell']) (by unfold maxLen; omega) (by omega) (by have := HB.out.size; simp; omega) ?_
                   intro v2 w2 hown2 hgr2 _
                   have R := Lib.hid (put_end h128 S.out.lt HB.out HO.out HE.out hown2 hgr2)
                   clear hown2 hgr2)
      go_ret
      exact R.out
    · have hor := or_more m
      go_wp2_with (at_builtin; refine wpList_append_own _ rfl (.tmp 19) (.tmp 23) 37 rfl W.heap.size 5 i0 (.int .u8 0) 1 1 Try.underlying37 hi0 hz0 hz1 hz2 rfl (by decide) _ _ _ rfl (World.ownsRow.alloc HO.out _) ⟨wr.heap.size, 0, none⟩ 1 1 [bV (m % 128 + 128)] rfl rfl (World.news_of_block (heap_alloc_new _ _)) (by simp [bV, Value.oneCell']) (by unfold maxLen; omega) (by omega) (by have := HB.out.size; simp; omega) ?_
                   intro v2 w2 hown2 hgr2 _
                   have R := Lib.hid (put_step h128 hm HB.out HO.out HE.out hown2 hgr2)
                   clear hown2 hgr2)
      go_roundw
      case rel => exact R.out
      case measure => simp [intOf]; omega

end Go.Proofs.Ytbmpeadoicjpnaa

/-
  What is read: the program's own reader.
-/
namespace Go.Proofs.Ytbmpeadoicjpnaa
open Go.RowKit

def GotPost (W : World) (x : Nat × Nat) (e : Ending) (w' : World) : Prop :=
  e = .returned (.tuple #[.int .u64 (x.1 : Nat), .int .i64 (x.2 : Nat)]) ∧ W = w'

theorem not_more (c : Nat) (h : c < 256) : bits .andNot .u8 (c : Int) 128 = ((c % 128 : Nat) : Int) := by
  have e := u8_andNot_nat c 128 h (by decide)
  rw [show ((128 : Nat) : Int) = 128 from rfl] at e
  rw [e]
  congr 1
  exact Nat.and_two_pow_sub_one_eq_mod c 7

theorem pow_seven {k s : Nat} (h : (k : Int) * 7 = (s : Int)) : 2 ^ s = 128 ^ k := by
  obtain rfl : s = 7 * k := by omega
  rw [Nat.pow_mul]

theorem wrap_word {n : Nat} : IntKind.u64.wrap (n : Int) = ((n % 18446744073709551616 : Nat) : Int) := by
  rw [IntKind.wrap_u64]; simp

theorem cast_shift (c s : Nat) : (c : Int) % 128 * 2 ^ s = ((c % 128 * 2 ^ s : Nat) : Int) := by simp

theorem room_word {c k : Nat} (h : k < 9 ∨ (k = 9 ∧ c % 128 < 2)) : c % 128 * 128 ^ k < 18446744073709551616 := by
  have e9 : (128 : Nat) ^ 9 = 9223372036854775808 := by decide
  rcases h with h | ⟨rfl, h⟩
  · have hp : (128 : Nat) ^ (k + 1) ≤ 128 ^ 9 := Nat.pow_le_pow_right (by decide) (by omega)
    have hq : c % 128 * 128 ^ k ≤ 127 * 128 ^ k := Nat.mul_le_mul_right _ (by omega)
    rw [Nat.pow_succ] at hp
    omega
  · have hq : c % 128 * 128 ^ 9 ≤ 1 * 128 ^ 9 := Nat.mul_le_mul_right _ (by omega)
    rw [e9] at hq ⊢
    omega

theorem shift_room {c k s : Nat} (hs : (k : Int) * 7 = (s : Int)) (h : k < 9 ∨ (k = 9 ∧ c % 128 < 2)) :
    ∃ G : Nat, IntKind.u64.wrap ((c : Int) % 128 * 2 ^ s) = (G : Int) ∧ G = c % 128 * 128 ^ k ∧ ((G : Int) / 2 ^ s != (c : Int) % 128) = false := by
  have e := pow_seven hs
  have hw := room_word h
  refine ⟨c % 128 * 128 ^ k, ?_, rfl, ?_⟩
  · rw [cast_shift, wrap_word, e, Nat.mod_eq_of_lt hw]
  · have h1 : ((c % 128 * 128 ^ k : Nat) : Int) / 2 ^ s = ((c % 128 : Nat) : Int) := by
      rw [show ((2 : Int) ^ s) = ((2 ^ s : Nat) : Int) by simp, ← Int.natCast_ediv, e, Nat.mul_div_cancel _ (Nat.pow_pos (by decide))]
    rw [h1]; simp

theorem shift_none {c k s : Nat} (hs : (k : Int) * 7 = (s : Int)) (h : k = 9) (h2 : 2 ≤ c % 128) :
    ∃ G : Nat, IntKind.u64.wrap ((c : Int) % 128 * 2 ^ s) = (G : Int) ∧ ((G : Int) / 2 ^ s != (c : Int) % 128) = true := by
  have e := pow_seven hs
  subst h
  have e9 : (128 : Nat) ^ 9 = 9223372036854775808 := by decide
  refine ⟨c % 128 * 128 ^ 9 % 18446744073709551616, ?_, ?_⟩
  · rw [cast_shift, wrap_word, e]
  · rw [show ((2 : Int) ^ s) = ((2 ^ s : Nat) : Int) by simp, ← Int.natCast_ediv, e, e9]
    have h3 : c % 128 * 9223372036854775808 % 18446744073709551616 / 9223372036854775808 ≠ c % 128 := by omega
    simp
    omega

theorem or_group {acc G k s g : Nat} (hs : (k : Int) * 7 = (s : Int)) (ha : acc < 128 ^ k) (hG : G = g * 128 ^ k) (hw : acc < 18446744073709551616) (hw2 : G < 18446744073709551616) : bits .or .u64 (acc : Int) (G : Int) = ((acc + G : Nat) : Int) := by
  have e := pow_seven hs
  rw [u64_or_nat acc G hw hw2, Nat.or_comm, nat_join s G acc (by rw [hG, e]; exact Nat.mul_mod_left ..) (by rw [e]; exact ha), Nat.add_comm]

theorem sum_word {acc c k : Nat} (ha : acc < 128 ^ k) (h : k < 9 ∨ (k = 9 ∧ c % 128 < 2)) : acc + c % 128 * 128 ^ k < 18446744073709551616 := by
  have e9 : (128 : Nat) ^ 9 = 9223372036854775808 := by decide
  rcases h with h | ⟨rfl, h⟩
  · have hp : (128 : Nat) ^ (k + 1) ≤ 128 ^ 9 := Nat.pow_le_pow_right (by decide) (by omega)
    have hq : c % 128 * 128 ^ k ≤ 127 * 128 ^ k := Nat.mul_le_mul_right _ (by omega)
    rw [Nat.pow_succ] at hp
    omega
  · have hq : c % 128 * 128 ^ 9 ≤ 1 * 128 ^ 9 := Nat.mul_le_mul_right _ (by omega)
    rw [e9] at hq ha ⊢
    omega

theorem short_last {bs : List Nat} {k acc : Nat} (h : SeenN bs k acc) (hk : k < bs.length) (hc : bs[k] < 128) (h9 : k < 9 ∨ (k = 9 ∧ bs[k] < 2)) : shortN (acc + bs[k] * 128 ^ k) (k + 1) = getN bs := by
  rw [seen_last h hk hc h9]
  generalize bs[k] = c at *
  unfold shortN
  by_cases hz : 0 < k ∧ c = 0
  · rw [if_pos hz]
    have := seen_short h.2 hz.1
    have h0 : shortN acc (k + 1) = (0, 0) := by unfold shortN; rw [if_neg (by omega)]
    unfold shortN at h0
    rw [hz.2, Nat.zero_mul]
    exact h0
  · rw [if_neg hz, if_pos (seen_size h.2 hc hz).symm]

set_option maxRecDepth 20000 in
set_option maxHeartbeats 2000000 in
theorem get_any (bs : List Nat) (ao : Option Addr) (cap : Nat) (W : World) (hs : SlAt bV 256 W ao cap bs) :
    Calls Try.prog 66 #[.slice ao bs.length cap] W (GotPost W (getN bs)) := by
  have hfit := hs.fit
  have hmax := hs.max
  unfold maxLen at hmax
  have S := Lib.hid hs
  clear hs
  go_enter Try.func66, Try.ntmps66
  go_wp2_with fail
  all_goals
    obtain ⟨L, hL⟩ : ∃ L, L = min bs.length 10 := ⟨_, rfl⟩
    try rw [show max (10 : Int) 0 = 10 by decide]
    go_loop [2, 14] (fun n i => ∃ k acc : Nat, k ≤ L ∧ acc < 18446744073709551616 ∧ n = .int .u64 (acc : Nat) ∧ i = .int .i64 (k : Nat) ∧ Hid (SeenN bs k acc)) (fun _ i => L - (intOf i).toNat)
    case atStart => exact ⟨0, 0, Nat.zero_le _, by decide, rfl, rfl, seen_zero bs⟩
    case round =>
      obtain ⟨k, acc, hk, hacc, rfl, rfl, hs⟩ := hrel
      by_cases hlt : k < L
      · have hkb : k < bs.length := by omega
        obtain ⟨b, off, rfl, hbW, hcx⟩ := S.out.cell k hkb
        have hc := S.out.lt bs[k] (List.getElem_mem hkb)
        have k1 : W.cell? ⟨b, off + k, none⟩ = some (.int .u8 (bs[k] : Nat)) := hcx
        clear hcx
        have S1 := Lib.hid (fun (h : ¬ bs[k] < 128) => seen_next hs.out hkb h)
        have S2 := Lib.hid (fun (h : bs[k] < 128) (h9 : k < 9 ∨ (k = 9 ∧ bs[k] < 2)) => short_last hs.out hkb h h9)
        have S3 := Lib.hid (fun (h : 2 ≤ bs[k] % 128) (h9 : k = 9) => seen_much hs.out (Or.inr ⟨h9, hkb, Or.inl h⟩))
        generalize hq : bs[k] = c at *
        clear hq
        have ha := hs.out.2
        have hno := not_more c hc
        obtain ⟨s, hs7⟩ : ∃ s : Nat, (k : Int) * 7 = (s : Int) := ⟨k * 7, by simp⟩
        have hs63 : s ≤ 63 := by omega
        by_cases hroom : k < 9 ∨ (k = 9 ∧ c % 128 < 2)
        · obtain ⟨G, g1, g2, g3⟩ := shift_room hs7 hroom
          have hG : G < 18446744073709551616 := by rw [g2]; exact room_word hroom
          have hor := or_group hs7 ha g2 hacc hG
          have hN9 : acc + G < 18446744073709551616 := by rw [g2]; exact sum_word ha hroom
          obtain ⟨N, hN⟩ : ∃ N, N = acc + G := ⟨_, rfl⟩
          rw [← hN] at hor hN9
          by_cases h128 : c < 128
          · have hmod : c % 128 = c := Nat.mod_eq_of_lt h128
            have R := Lib.hid (S2.out h128 (by rw [hmod] at hroom; exact hroom))
            rw [hmod] at g2
            rw [← g2, ← hN] at R
            have hcm : (c : Int) % 128 = (c : Int) := by omega
            have g1' := g1
            have g3' := g3
            rw [hcm] at g1' g3'
            clear hcm hmod
            clear ha S1 S2 S3 g2 hroom hN
            go_wp2_with (go_at_call 87; refine (short_any N (k + 1) _ hN9 (by omega)).mono ?_; rintro e w' ⟨rfl, rfl⟩)
            go_ret2
            exact ⟨by rw [← R.out]; rfl, rfl⟩
          · have R := Lib.hid (S1.out h128)
            rw [← g2, ← hN] at R
            clear ha S1 S2 S3 g2 hroom hN
            go_wp2_with fail
            go_round
            case rel => exact ⟨k + 1, N, by omega, hN9, rfl, by go_num, R⟩
            case measure => simp only [intOf]; omega
        · have h9 : k = 9 := by omega
          have R := Lib.hid (S3.out (by omega) h9)
          obtain ⟨G, g1, g3⟩ := shift_none hs7 h9 (show 2 ≤ c % 128 by omega)
          clear ha S1 S2 S3 hroom h9
          by_cases h128 : c < 128
          · have hcm : (c : Int) % 128 = (c : Int) := by omega
            have g1' := g1
            have g3' := g3
            rw [hcm] at g1' g3'
            clear hcm
            go_wp2_with fail
            go_ret2
            exact ⟨by rw [R.out]; rfl, rfl⟩
          · go_wp2_with fail
            go_ret2
            exact ⟨by rw [R.out]; rfl, rfl⟩
      · have R : Hid (getN bs = (0, 0)) := by
          by_cases h10 : bs.length ≤ k
          · exact seen_over hs.out h10
          · exact seen_much hs.out (Or.inl (by omega))
        go_wp2_with fail
        go_ret2
        exact ⟨by rw [R.out]; rfl, rfl⟩

end Go.Proofs.Ytbmpeadoicjpnaa

/-
  What the document's own reader reads.
-/
namespace Go.Proofs.Ytbmpeadoicjpnaa
open Go.RowKit

theorem and_low (c : Nat) (h : c < 256) : bits .and .u8 (c : Int) 127 = ((c % 128 : Nat) : Int) := by
  have e := u8_and_nat c 127 h (by decide)
  rw [show ((127 : Nat) : Int) = 127 from rfl] at e
  rw [e]
  congr 1
  exact Nat.and_two_pow_sub_one_eq_mod c 7

set_option maxRecDepth 20000 in
set_option maxHeartbeats 2000000 in
theorem rget_any (bs : List Nat) (ao : Option Addr) (cap : Nat) (W : World) (hs : SlAt bV 256 W ao cap bs) :
    Calls Try.prog 71 #[.slice ao bs.length cap] W (GotPost W (getN bs)) := by
  have hfit := hs.fit
  have hmax := hs.max
  unfold maxLen at hmax
  have S := Lib.hid hs
  clear hs
  go_enter Try.func71, Try.ntmps71
  go_wp2_with fail
  go_loop [4, 5] (fun n i => ∃ k acc : Nat, k ≤ 10 ∧ acc < 18446744073709551616 ∧ n = .int .u64 (acc : Nat) ∧ i = .int .i64 (k : Nat) ∧ Hid (SeenN bs k acc)) (fun _ i => 10 - (intOf i).toNat)
  case atStart => exact ⟨0, 0, Nat.zero_le _, by decide, rfl, rfl, seen_zero bs⟩
  case round =>
    obtain ⟨k, acc, hk, hacc, rfl, rfl, hs⟩ := hrel
    by_cases hkb : k < bs.length
    · by_cases h10 : k < 10
      · obtain ⟨b, off, rfl, hbW, hcx⟩ := S.out.cell k hkb
        have hc := S.out.lt bs[k] (List.getElem_mem hkb)
        have k1 : W.cell? ⟨b, off + k, none⟩ = some (.int .u8 (bs[k] : Nat)) := hcx
        clear hcx
        have S1 := Lib.hid (fun (h : ¬ bs[k] < 128) => seen_next hs.out hkb h)
        have S2 := Lib.hid (fun (h : bs[k] < 128) (h9 : k < 9 ∨ (k = 9 ∧ bs[k] < 2)) => seen_last hs.out hkb h h9)
        have S3 := Lib.hid (fun (h : 2 ≤ bs[k]) (h9 : k = 9) => seen_much hs.out (Or.inr ⟨h9, hkb, show 2 ≤ bs[k] % 128 ∨ 128 ≤ bs[k] by omega⟩))
        generalize hq : bs[k] = c at *
        clear hq
        have ha := hs.out.2
        have hno := and_low c hc
        obtain ⟨s, hs7⟩ : ∃ s : Nat, (k : Int) * 7 = (s : Int) := ⟨k * 7, by simp⟩
        have hs7' : 7 * (k : Int) = (s : Int) := by omega
        have hs63 : s ≤ 63 := by omega
        by_cases hout : k = 9 ∧ 2 ≤ c
        · have R := Lib.hid (S3.out hout.2 hout.1)
          have d1 : ((k : Int) == 9) = true := by simp; omega
          have d2 : (1 : Int) < (c : Int) := by omega
          clear ha S1 S2 S3 hout
          go_wp2_with fail
          go_ret2
          exact ⟨by rw [R.out]; rfl, rfl⟩
        · have hroom : k < 9 ∨ (k = 9 ∧ c % 128 < 2) := by omega
          obtain ⟨G, g1, g2, g3⟩ := shift_room hs7 hroom
          have hG : G < 18446744073709551616 := by rw [g2]; exact room_word hroom
          have hor := or_group hs7 ha g2 hacc hG
          have hN9 : acc + G < 18446744073709551616 := by rw [g2]; exact sum_word ha hroom
          obtain ⟨N, hN⟩ : ∃ N, N = acc + G := ⟨_, rfl⟩
          rw [← hN] at hor hN9
          by_cases h128 : c < 128
          · have hmod : c % 128 = c := Nat.mod_eq_of_lt h128
            have R := Lib.hid (S2.out h128 (by rw [hmod] at hroom; exact hroom))
            rw [hmod] at g2
            rw [← g2, ← hN] at R
            have hcm : (c : Int) % 128 = (c : Int) := by omega
            have g1' := g1
            rw [hcm] at g1'
            clear hcm hmod g3
            clear ha S1 S2 S3 g2 hN
            by_cases hz : 0 < k ∧ c = 0
            · have e := Lib.hid (show getN bs = (0, 0) by rw [R.out, if_pos hz])
              have hz1 := hz.1
              have hz2 : c < 1 := by omega
              have d2 : ((c : Int) == 0) = true := by simp; omega
              clear hz R
              by_cases h9 : 8 < k
              · have d1 : ((k : Int) == 9) = true := by simp; omega
                go_wp2_with fail
                go_ret2
                exact ⟨by rw [e.out]; rfl, rfl⟩
              · have d1 : ((k : Int) == 9) = false := by simp; omega
                go_wp2_with fail
                go_ret2
                exact ⟨by rw [e.out]; rfl, rfl⟩
            · have e := Lib.hid (show getN bs = (N, k + 1) by rw [R.out, if_neg hz])
              have fin : ∀ {x y : Value}, x = .int .u64 (N : Nat) → y = .int .i64 ((k : Int) + 1) → Ending.returned (.tuple #[x, y]) = .returned (.tuple #[.int .u64 ((getN bs).1 : Nat), .int .i64 ((getN bs).2 : Nat)]) := by
                intro x y hx hy
                rw [e.out, hx, hy]
                simp
              by_cases h9 : 8 < k
              · have d1 : ((k : Int) == 9) = true := by simp; omega
                have d2 : ((c : Int) == 0) = false := by simp; omega
                have d3 : (c : Int) ≤ 1 := by omega
                go_wp2_with fail
                go_ret2
                exact ⟨fin rfl rfl, rfl⟩
              · have d1 : ((k : Int) == 9) = false := by simp; omega
                by_cases h0 : c < 1
                · have d2 : ((c : Int) == 0) = true := by simp; omega
                  have d3 : (k : Int) ≤ 0 := by omega
                  go_wp2_with fail
                  go_ret2
                  exact ⟨fin rfl rfl, rfl⟩
                · have d2 : ((c : Int) == 0) = false := by simp; omega
                  go_wp2_with fail
                  go_ret2
                  exact ⟨fin rfl rfl, rfl⟩
          · have R := Lib.hid (S1.out h128)
            rw [← g2, ← hN] at R
            clear ha S1 S2 S3 g2 hroom hN g3
            go_wp2_with fail
            go_round
            case rel => exact ⟨k + 1, N, by omega, hN9, rfl, by go_num, R⟩
            case measure => simp only [intOf]; omega
      · have R := Lib.hid (seen_much hs.out (Or.inl (show k = 10 by omega)))
        go_wp2_with fail
        go_ret2
        exact ⟨by rw [R.out]; rfl, rfl⟩
    · have R := Lib.hid (seen_over hs.out (Nat.le_of_not_lt hkb))
      go_wp2_with fail
      go_ret2
      exact ⟨by rw [R.out]; rfl, rfl⟩

end Go.Proofs.Ytbmpeadoicjpnaa
