/-
  Numbers and bytes, for those who write and read by pane: a literal's number, bytes that lay there; what was read is no longer than what was there, and more behind it changes nothing.
-/
import Derived.Test.YthnglifjijfplaaPob
import Derived.Test.YthnglifjijfplaaWbas
namespace Go.Proofs.Ythnglifjijfplaa
open Go.RowKit

theorem on_numz {W w : World} {N p n : Nat} {z : Int} {bs : List Nat} (h : WrOn W N p bs w) (hz : (n : Int) = z) (hn : n < 18446744073709551616) (hl : bs.length ≤ 1000000) :
    Calls Try.prog 18 #[.pointer (some ⟨p, 0, none⟩), .int .u64 z] w fun e w' => e = .returned (.tuple #[]) ∧ WrOn W N p (bs ++ lebL n) w' := by
  subst hz; exact on_num h hn hl
/-- Bytes that lay there ahead of the writer. -/
theorem on_bytesz {W w : World} {p len cap : Nat} {bs cs : List Nat} {ao : Option Addr} (h : WrOn W W.heap.size p bs w) (hs : SlAt bV 256 W ao cap cs) (hlen : cs.length = len) (hl : bs.length ≤ 900000) (hc : cs.length ≤ 100000) :
    Calls Try.prog 19 #[.pointer (some ⟨p, 0, none⟩), .slice ao len cap] w fun e w' => e = .returned (.tuple #[]) ∧ WrOn W W.heap.size p (bs ++ (lebL cs.length ++ cs)) w' := by
  refine (on_bytes h (Below.refl _ _) (hs.below h.2) hlen (fun ad e h0 => ?_) hl hc).mono fun e w' h => ?_
  · obtain ⟨b, off, e2, hl2, _⟩ := hs.cell 0 (List.length_pos_iff.2 h0)
    rw [e] at e2
    cases e2
    exact Or.inl hl2
  · rwa [List.append_assoc] at h
theorem ron_num {W w : World} {N p n : Nat} {z : Int} {bs : List Nat} (h : WrOn W N p bs w) (hz : (n : Int) = z) (hn : n < 18446744073709551616) (hl : bs.length ≤ 1000000) :
    Calls Try.prog 24 #[.pointer (some ⟨p, 0, none⟩), .int .u64 z] w fun e w' => e = .returned (.tuple #[]) ∧ WrOn W N p (bs ++ lebL n) w' := by
  subst hz
  obtain ⟨⟨F, hA⟩, hB⟩ := h
  exact (rwnum_any w N p F bs n hA hn hl).mono fun e w' h => ⟨h.1, WrOn.post hA hB h⟩
theorem ron_bytes {W w : World} {p len cap : Nat} {bs cs : List Nat} {ao : Option Addr} (h : WrOn W W.heap.size p bs w) (hs : SlAt bV 256 W ao cap cs) (hlen : cs.length = len) (hl : bs.length ≤ 900000) (hc : cs.length ≤ 100000) :
    Calls Try.prog 25 #[.pointer (some ⟨p, 0, none⟩), .slice ao len cap] w fun e w' => e = .returned (.tuple #[]) ∧ WrOn W W.heap.size p (bs ++ (lebL cs.length ++ cs)) w' := by
  subst hlen
  have hs1 := hs.below h.2
  obtain ⟨⟨F, hA⟩, hB⟩ := h
  refine (rwbytes_any w W.heap.size p F bs cs ao cap hA hs1 (fun ad e h0 f => ?_) hl hc).mono fun e w' h => ?_
  · obtain ⟨b, off, e2, hl2, _⟩ := hs.cell 0 (List.length_pos_iff.2 h0)
    rw [e] at e2
    cases e2
    have := hA.size.2.2 _ f
    simp only at this
    omega
  · have := (⟨h.1, WrOn.post hA hB h⟩ : e = .returned (.tuple #[]) ∧ WrOn W W.heap.size p _ w')
    rwa [List.append_assoc] at this
theorem lens (n : Nat) (h : n < 18446744073709551616) : (lebL n).length ≤ 10 := (leb_len h).2

theorem numR_le (most : Nat) (s : Option (List Nat)) : (numR most s).1 ≤ most := by
  cases s with
  | none => exact Nat.zero_le _
  | some B =>
    show (if (getN B).2 = 0 ∨ most < (getN B).1 then ((0 : Nat), (none : Option (List Nat))) else ((getN B).1, some (B.drop (getN B).2))).1 ≤ _
    split
    · exact Nat.zero_le _
    · simp only; omega
theorem numR_len (most : Nat) (s : Option (List Nat)) : ((numR most s).2.getD []).length ≤ (s.getD []).length := by
  cases s with
  | none => exact Nat.le_refl _
  | some B =>
    show ((if (getN B).2 = 0 ∨ most < (getN B).1 then ((0 : Nat), (none : Option (List Nat))) else ((getN B).1, some (B.drop (getN B).2))).2.getD []).length ≤ B.length
    split
    · simp
    · simp
theorem bytR_len (most : Int) (s : Option (List Nat)) : ((bytR most s).2.getD []).length ≤ (s.getD []).length := by
  have h := numR_len (max most 0).toNat s
  unfold bytR
  split
  · simp
  · cases e : (numR (max most 0).toNat s).2 with
    | none => simp
    | some B => rw [e] at h; simp at h ⊢; omega
theorem in_num {most : Nat} {s : Option (List Nat)} (hs : ∀ x ∈ s.getD [], x < 256) : ∀ x ∈ ((numR most s).2.getD []), x < 256 := by
  cases s with
  | none => intro x hx; simp [numR] at hx
  | some B =>
    show ∀ x ∈ ((if (getN B).2 = 0 ∨ most < (getN B).1 then ((0 : Nat), (none : Option (List Nat))) else ((getN B).1, some (B.drop (getN B).2))).2.getD []), x < 256
    split
    · simp
    · intro x hx
      exact hs x (List.mem_of_mem_drop (by simpa using hx))

theorem decN_more' : ∀ (b : List Nat) (x : Nat × Nat) (q : List Nat), decN b = some x → decN (b ++ q) = some x
  | [], _, _, h => by simp [decN] at h
  | c :: r, x, q, h => by
    rw [List.cons_append]
    unfold decN at h ⊢
    by_cases h1 : c < 128
    · rw [if_pos h1] at h ⊢; exact h
    · rw [if_neg h1] at h ⊢
      cases hd : decN r with
      | none => rw [hd] at h; simp at h
      | some y => rw [decN_more' r y q hd]; rw [hd] at h; exact h
theorem getN_more {b : List Nat} (h : (getN b).2 ≠ 0) (q : List Nat) : getN (b ++ q) = getN b := by
  unfold getN at h ⊢
  cases hd : decN b with
  | none => rw [hd] at h; simp at h
  | some y => rw [decN_more' b y q hd]
theorem num_more {most : Nat} {s : Option (List Nat)} {R : List Nat} (h : (numR most s).2 = some R) : ∃ B, s = some B ∧ ∀ q, numR most (some (B ++ q)) = ((numR most s).1, some (R ++ q)) := by
  cases s with
  | none => simp [numR] at h
  | some B =>
    refine ⟨B, rfl, fun q => ?_⟩
    have e : ∀ b : List Nat, numR most (some b) = if (getN b).2 = 0 ∨ most < (getN b).1 then (0, none) else ((getN b).1, some (b.drop (getN b).2)) := fun _ => rfl
    by_cases hc : (getN B).2 = 0 ∨ most < (getN B).1
    · rw [e B, if_pos hc] at h; simp at h
    · have hg := getN_more (fun z => hc (Or.inl z)) q
      rw [e B, if_neg hc] at h ⊢
      rw [e (B ++ q), hg, if_neg hc]
      simp only [Option.some.injEq] at h
      rw [List.drop_append_of_le_length (getN_size B), h]
theorem byt_more {most : Int} {s : Option (List Nat)} {R : List Nat} (h : (bytR most s).2 = some R) : ∃ B, s = some B ∧ ∀ q, bytR most (some (B ++ q)) = ((bytR most s).1, some (R ++ q)) := by
  unfold bytR at h
  split at h
  · simp at h
  · rename_i hc
    cases hn : (numR (max most 0).toNat s).2 with
    | none => rw [hn] at h; simp at h
    | some C =>
      obtain ⟨B, rfl, hq⟩ := num_more hn
      refine ⟨B, rfl, fun q => ?_⟩
      rw [hn] at h hc
      simp only [Option.map_some, Option.some.injEq, Option.getD_some] at h hc
      unfold bytR
      rw [hq q, hn]
      simp only [Option.getD_some, Option.map_some]
      rw [if_neg (by rw [List.length_append]; omega), if_neg hc, List.take_append_of_le_length (by omega), List.drop_append_of_le_length (by omega), h]

theorem rd_box {W w0 : World} {bs : List Nat} {a : Option Addr} {cap : Nat} {t : TypeId} (hs : SlAt bV 256 W a cap bs) (hb : Below W.heap.size W w0) :
    RdAt (w0.alloc (.cells #[.slice a bs.length cap, .bool false] t)) w0.heap.size (fun k => k < W.heap.size) (some bs) := by
  refine ⟨a, cap, by simp, by simp, fun i => by simp, by simp, (hs.below hb).below (below_alloc (Below.refl _ _) _), fun ad e h0 => ?_, fun h => by have := hb.size; omega⟩
  have h0 : bs ≠ [] := h0
  obtain ⟨b, off, e2, hl, _⟩ := hs.cell 0 (List.length_pos_iff.2 h0)
  rw [e] at e2
  cases e2
  exact hl

end Go.Proofs.Ythnglifjijfplaa
