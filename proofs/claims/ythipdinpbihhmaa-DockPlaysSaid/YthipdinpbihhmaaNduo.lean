/-
  The program's dock and the document's, side by side.
-/
import Derived.Test.YthipdinpbihhmaaNrt
namespace Go.Proofs.Ythipdinpbihhmaa
open Go.RowKit

/-- What comes. -/
def DtAt (w : World) (a : Option Addr) (cap : Nat) (l : List (Nat × ByteArray)) : Prop := RowV (fun _ => True) w a cap l.length 2 (dI l) ∧ ∀ x ∈ l, x.1 < 18446744073709551616

structure DuoD (W : World) (N p q r M : Nat) (S T : Dk) (w : World) : Prop where
  dk : DkAt w p q M S
  rd : RdAt w r M T
  pr : p ≠ r
  qr : q ≠ r
  lt : p < M ∧ q < M ∧ r < M
  low : N ≤ p ∧ N ≤ q ∧ N ≤ r
  nle : N ≤ w.heap.size
  be : Below N W w

section
variable {W w w' : World} {N p q r M c num : Nat} {S T : Dk} {L : List (Value × List ByteArray)}
theorem DuoD.below (h : DuoD W N p q r M S T w) (hb : Below w.heap.size w w') : DuoD W N p q r M S T w' :=
  ⟨h.dk.below hb, h.rd.below hb, h.pr, h.qr, h.lt, h.low, Nat.le_trans h.nle hb.size, h.be.trans (hb.mono h.nle)⟩
theorem DuoD.drewN (h : DuoD W N p q r M S T w) (k : Nat) : DuoD W N p q r M S T (w.drewN k) := h.below ⟨rfl, rfl, rfl, Nat.le_refl _, fun _ _ => rfl⟩

theorem duo_new (h : DkOn W N p q M S L w) (hS : S.held = []) (hr : RdAt w' r w'.heap.size T) (hb : Below w.heap.size w w') (hM : M ≤ w.heap.size) (hr1 : w.heap.size ≤ r) : DuoD W N p q r w'.heap.size S T w' := by
  obtain ⟨E, hE, hH⟩ := h.at'
  have hE0 : E = [] := by
    cases E with
    | nil => rfl
    | cons x t => rw [hS] at hH; cases hH
  subst hE0
  have hp := hE.pM
  have hq := hE.qM
  have hE2 := hE.below hb
  obtain ⟨a, cap, hR⟩ := hr
  have hrl := hR.c.lt
  have hsz := hb.size
  exact ⟨⟨[], ⟨hE2.c, by omega, by omega, hE2.ne, Nat.le_refl _, hE2.map, fun x hx => by cases hx⟩, hH⟩, ⟨a, cap, hR⟩, by omega, by omega, ⟨by omega, by omega, hrl⟩, ⟨h.pN, h.qN, by have := h.nle; omega⟩, by have := h.nle; omega, h.be.trans (hb.mono h.nle)⟩

theorem duo_take {b : Bd} {A : Nat → Prop} (h : DuoD W N p q r M S T w) (hS : S.ok c) (hc : c ≤ 1000) (hn : num < 18446744073709551616) (hB : BodyV A w b) (hs : b.s.size ≤ 140737488355328) :
    Calls Try.prog 10 #[.pointer (some ⟨p, 0, none⟩), .int .u64 (num : Nat), .slice b.a b.s.size b.c] w fun e w' => ∃ a cap, e = .returned (.tuple #[.slice a (S.gave num b.s).length cap, .bool (S.may num)]) ∧
      UpR M w' (.slice a (S.gave num b.s).length cap) (S.gave num b.s) ∧ DuoD W N p q r M (S.came num b.s) T w' := by
  refine (take_any h.dk hS hc hn hB hs).mono ?_
  rintro e w' ⟨v, rfl, h1, h2, h3⟩
  have h1' := h1
  obtain ⟨a, cap, L1, rfl, e2, -, -⟩ := h1
  have e3 : L1.length = (S.gave num b.s).length := by rw [← e2, List.length_map]
  rw [e3] at h1' ⊢
  have hl := h.lt
  have hlo := h.low
  refine ⟨a, cap, rfl, h1', h2, h.rd.keep h3 (fun f => ?_) (fun k _ hk f => ?_), h.pr, h.qr, h.lt, h.low, Nat.le_trans h.nle h3.size, h.be.trans (h3.below h.nle (fun k hk => ?_))⟩
  · rcases f with f | f
    · exact h.pr f.symm
    · exact h.qr f.symm
  · rcases f with f | f <;> omega
  · rcases hk with hk | hk <;> omega

theorem duo_str {k : Nat} {b : Bool} {s : ByteArray} (h : DuoD W N p q r M S T w) (hS : S.ok c) (hc : c ≤ 1000) (hn : num < 18446744073709551616) (hs : s.size ≤ 140737488355328) (hk : (S.gave num s).length = k) (hm : S.may num = b) :
    Calls Try.prog 10 #[.pointer (some ⟨p, 0, none⟩), .int .u64 (num : Nat), .slice (some ⟨w.heap.size, 0, none⟩) s.size (grownCap w s.size 0 5)] (Lib.bytesWorld w 5 s) fun e w' => ∃ a cap, e = .returned (.tuple #[.slice a k cap, .bool b]) ∧
      UpR M w' (.slice a k cap) (S.gave num s) ∧ DuoD W N p q r M (S.came num s) T w' := by
  subst hk hm
  exact duo_take (h.below (below_new w s)) hS hc hn (body_new w s hs) hs

theorem duo_ref {k : Nat} {b : Bool} {s : ByteArray} {v : Value} {ss : List ByteArray} (h : DuoD W N p q r M S T w) (hu : UpR M w v ss) (hT : T.ok c) (hc : c ≤ 1000) (hn : num < 18446744073709551616) (hk : (T.gave num s).length = k) (hm : T.may num = b) :
    Calls Try.prog 14 #[.pointer (some ⟨r, 0, none⟩), .int .u64 (num : Nat), .string s] w fun e w' => ∃ a cap, e = .returned (.tuple #[.slice a k cap, .bool b]) ∧
      SlV w' a cap ((T.gave num s).map Value.string) ∧ UpR M w' v ss ∧ DuoD W N p q r M S (T.came num s) w' := by
  subst hk hm
  refine (rd_take h.rd hT hc hn).mono ?_
  rintro e w' ⟨a, cap, rfl, h1, h2, h3⟩
  have hl := h.lt
  have hlo := h.low
  exact ⟨a, cap, rfl, h1, hu.keep h3 (fun k _ hk f => by omega), h.dk.keep h3 h.pr h.qr (fun k _ hk f => by omega), h2, h.pr, h.qr, h.lt, h.low, Nat.le_trans h.nle h3.size, h.be.trans (h3.below h.nle (fun k hk => by omega))⟩

theorem duo_held {a a' : Option Addr} {k cap cap' : Nat} {ss rs : List ByteArray} (h : DuoD W N p q r M S T w) (hS : S.ok c) (hu : UpR M w (.slice a k cap) ss) (hr : SlV w a' cap' (rs.map Value.string)) :
    Calls Try.prog 11 #[.pointer (some ⟨p, 0, none⟩)] w fun e w' => ∃ a2 cap2, e = .returned (.slice a2 S.nums.length cap2) ∧ SlV w' a2 cap2 (S.nums.map uN) ∧ UpR M w' (.slice a k cap) ss ∧ SlV w' a' cap' (rs.map Value.string) ∧ DuoD W N p q r M S T w' := by
  refine (held_any h.dk hS).mono ?_
  rintro e w' ⟨a2, cap2, rfl, h1, -, h2⟩
  exact ⟨a2, cap2, rfl, h1, hu.below h2, hr.below h2, h.below h2⟩
end
end Go.Proofs.Ythipdinpbihhmaa
