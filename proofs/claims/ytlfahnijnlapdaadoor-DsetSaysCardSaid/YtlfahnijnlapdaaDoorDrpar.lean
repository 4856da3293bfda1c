/-
  What a text tells: the document's own reader.
-/
import Derived.Test.YtlfahnijnlapdaaDoorDdig
import Derived.Test.YtlfahnijnlapdaaDoorDpars
namespace Go.Proofs.YtlfahnijnlapdaaDoor
open Go.RowKit

def stepR (st : Nat × Nat × Bool) (ch : UInt8) : Nat × Nat × Bool :=
  if 48 ≤ ch.toNat ∧ ch.toNat ≤ 57 ∧ st.2.1 < 100 then (st.1, 10 * st.2.1 + (ch.toNat - 48), true)
  else ((if st.2.2 = true ∧ st.2.1 < 64 then st.1 ||| bitN st.2.1 else st.1), 0, false)
def scanL (l : List UInt8) : Nat × Nat × Bool := l.foldl stepR (0, 0, false)
def readN (l : List UInt8) : Nat := (scanL l).1

theorem scan_take {l : List UInt8} {k : Nat} (h : k < l.length) : scanL (l.take (k + 1)) = stepR (scanL (l.take k)) l[k] := by
  unfold scanL; rw [List.take_succ_eq_append_getElem h, List.foldl_append]; rfl
theorem step_dig {c n : Nat} {b : Bool} {d : Nat} (h : d < 10) (hn : n < 100) : stepR (c, n, b) (chr d) = (c, 10 * n + d, true) := by
  unfold stepR
  rw [chr_nat h, if_pos ⟨by omega, by omega, hn⟩]
  simp
theorem step_digs {c k : Nat} (hk : k < 64) : (digN k).foldl stepR (c, 0, false) = (c, k, true) := by
  unfold digN
  by_cases h : k < 10
  · rw [if_pos h]
    show stepR (c, 0, false) (chr k) = _
    rw [step_dig h (by decide)]; simp
  · rw [if_neg h]
    show stepR (stepR (c, 0, false) (chr (k / 10))) (chr (k % 10)) = _
    rw [step_dig (by omega) (show 0 < 100 by decide), step_dig (by omega) (by omega)]
    rw [show 10 * (10 * 0 + k / 10) + k % 10 = k by omega]
theorem step_end {c k : Nat} (hk : k < 64) (ch : UInt8) (h : ch = 44 ∨ ch = 125) : stepR (c, k, true) ch = (c ||| bitN (k : Int), 0, false) := by
  unfold stepR
  rw [if_neg (by rcases h with rfl | rfl <;> (intro e; revert e; simp)), if_pos ⟨rfl, hk⟩]
theorem scan_join (l : List Nat) (ch : UInt8) (h : ch = 44 ∨ ch = 125) (hl : ∀ x ∈ l, x < 64) : ((123 : UInt8) :: joinN l ++ [ch]).foldl stepR (0, 0, false) = (ofN (l.map fun (x : Nat) => (x : Int)), 0, false) := by
  revert hl ch
  refine snoc_ind (C := fun l => ∀ ch : UInt8, ch = 44 ∨ ch = 125 → (∀ x ∈ l, x < 64) → ((123 : UInt8) :: joinN l ++ [ch]).foldl stepR (0, 0, false) = (ofN (l.map fun (x : Nat) => (x : Int)), 0, false)) (fun ch h _ => by rcases h with rfl | rfl <;> decide) (fun l k ih ch h hl => ?_) l
  have hk : k < 64 := hl k (by simp)
  rw [List.map_append, List.map_cons, List.map_nil, ofN_snoc]
  by_cases h0 : l = []
  · subst h0
    rw [List.nil_append, join_one, List.foldl_append, List.foldl_cons]
    show stepR (List.foldl stepR (0, 0, false) (digN k)) ch = _
    rw [step_digs hk, step_end hk ch h]; rfl
  · have e := ih 44 (Or.inl rfl) fun x hx => hl x (by simp [hx])
    rw [join_snoc h0, show (123 : UInt8) :: (joinN l ++ 44 :: digN k) ++ [ch] = ((123 : UInt8) :: joinN l ++ [44]) ++ (digN k ++ [ch]) by simp, List.foldl_append, e, List.foldl_append, step_digs hk]
    exact step_end hk ch h
theorem read_show {s : Nat} (h : s < 18446744073709551616) : readN (showN s) = s := by
  unfold readN scanL showN
  have e := scan_join (listN s) 125 (Or.inr rfl) (toN_lt)
  rw [List.cons_append] at e
  rw [e]
  exact of_list h

theorem step_lt {st : Nat × Nat × Bool} (ch : UInt8) (h : st.1 < 18446744073709551616) : (stepR st ch).1 < 18446744073709551616 ∧ (stepR st ch).2.1 ≤ 999 := by
  unfold stepR
  split
  · rename_i h1; exact ⟨h, by show 10 * st.2.1 + _ ≤ 999; omega⟩
  · refine ⟨?_, Nat.zero_le _⟩
    show (if _ then _ else _) < _
    split
    · exact or_lt h (bitN_lt _)
    · exact h
theorem scans_lt : ∀ (l : List UInt8) (st : Nat × Nat × Bool), st.1 < 18446744073709551616 → (l.foldl stepR st).1 < 18446744073709551616
  | [], _, h => h
  | c :: r, _, h => scans_lt r _ (step_lt c h).1
theorem readN_lt (l : List UInt8) : readN l < 18446744073709551616 := scans_lt l _ (by decide)

def RParRel (s : ByteArray) (c n b i : Value) : Prop :=
  ∃ (k x m : Nat) (y : Bool), k ≤ s.size ∧ c = .int .u64 (x : Nat) ∧ n = .int .i64 (m : Nat) ∧ b = .bool y ∧ i = .int .i64 (k : Nat) ∧ x < 18446744073709551616 ∧ m ≤ 999 ∧ Hid (scanL (s.data.toList.take k) = (x, m, y))

def RParsePost (W : World) (s : ByteArray) (e : Ending) (w' : World) : Prop :=
  e = .returned (.tuple #[.int .u64 (readN s.data.toList : Nat), .bool (decide (showN (readN s.data.toList) = s.data.toList))]) ∧ Below W.heap.size W w'

set_option maxRecDepth 20000 in
set_option maxHeartbeats 4000000 in
theorem rparse_any (s : ByteArray) (W : World) (hs : s.size ≤ 250) : Calls Tryd.prog 16 #[.string s] W (RParsePost W s) := by
  go_enter Tryd.func16, Tryd.ntmps16
  go_wp2_with fail
  go_loop [4, 5, 6, 7] (fun c n b i => RParRel s c n b i) (fun _ _ _ i => s.size - (intOf i).toNat)
  case atStart => exact ⟨0, 0, 0, false, Nat.zero_le _, rfl, rfl, rfl, rfl, by decide, by decide, rfl⟩
  case round =>
    obtain ⟨k, c, n, b, hk, rfl, rfl, rfl, rfl, hc, hn, hr⟩ := hrel
    by_cases hlt : k < s.size
    · have hl : k < s.data.toList.length := by rw [← Lib.size_eq]; exact hlt
      have R := Lib.hid (show scanL (s.data.toList.take (k + 1)) = stepR (c, n, b) (s[k]'hlt) by rw [scan_take hl, hr.out]; rfl)
      have L := Lib.hid (step_lt (st := (c, n, b)) (s[k]'hlt) hc)
      clear hr hl
      by_cases a : 48 ≤ s[k].toNat ∧ s[k].toNat ≤ 57 ∧ n < 100
      · have E := Lib.hid (show stepR (c, n, b) s[k] = (c, 10 * n + (s[k].toNat - 48), true) by unfold stepR; rw [if_pos a])
        obtain ⟨a1, a2, a3⟩ := a
        go_wp2_with fail
        go_round
        case rel => exact ⟨k + 1, c, 10 * n + (s[k].toNat - 48), true, hlt, rfl, by congr 1; omega, rfl, by go_num, hc, by have := L.out; rw [E.out] at this; exact this.2, Lib.hid (by rw [R.out, E.out])⟩
        case measure => simp only [intOf]; omega
      · by_cases g : b = true ∧ n < 64
        · have E := Lib.hid (show stepR (c, n, b) s[k] = (c ||| bitN (n : Int), 0, false) by unfold stepR; rw [if_neg a, if_pos g])
          obtain ⟨rfl, g2⟩ := g
          have e1 := shl_nat g2
          have e2 := or_bit (n : Int) hc
          generalize c ||| bitN (n : Int) = d at *
          generalize bitN (n : Int) = g at *
          have q : s[k].toNat < 48 ∨ (48 ≤ s[k].toNat ∧ 57 < s[k].toNat) := by omega
          clear a
          rcases q with q | ⟨q, q2⟩
          all_goals
            go_wp2_with fail
            go_round
            case rel => exact ⟨k + 1, d, 0, false, hlt, rfl, rfl, rfl, by go_num, by have := L.out; rw [E.out] at this; exact this.1, by decide, Lib.hid (by rw [R.out, E.out])⟩
            case measure => simp only [intOf]; omega
        · have E := Lib.hid (show stepR (c, n, b) s[k] = (c, 0, false) by unfold stepR; rw [if_neg a, if_neg g])
          have q : s[k].toNat < 48 ∨ (48 ≤ s[k].toNat ∧ 57 < s[k].toNat) ∨ (48 ≤ s[k].toNat ∧ s[k].toNat ≤ 57 ∧ 100 ≤ n) := by omega
          have q2 : b = false ∨ (b = true ∧ 64 ≤ n) := by cases b <;> simp at g ⊢ <;> omega
          clear a g
          rcases q with q | ⟨q, q3⟩ | ⟨q, q3, q4⟩ <;> rcases q2 with rfl | ⟨rfl, q5⟩
          all_goals
            go_wp2_with fail
            go_round
            case rel => exact ⟨k + 1, c, 0, false, hlt, rfl, rfl, rfl, by go_num, hc, by decide, Lib.hid (by rw [R.out, E.out])⟩
            case measure => simp only [intOf]; omega
    · have hrd := hr.out
      rw [List.take_of_length_le (by rw [← Lib.size_eq]; omega)] at hrd
      have HR := Lib.hid (show readN s.data.toList = c by unfold readN; rw [hrd])
      clear hr hrd
      go_wp2_with fail
      refine (rshow_any c W hc).mono ?_
      rintro e w' ⟨rfl, hb⟩
      have HB := Lib.hid hb
      have hq : (showN c == s.toList) = decide (showN c = s.data.toList) := by rw [Lib.toList_data, Bool.beq_eq_decide_eq]
      clear hb
      go_wp2_with fail
      go_ret2
      exact ⟨by rw [HR.out]; rfl, HB.out⟩

end Go.Proofs.YtlfahnijnlapdaaDoor
