/-
  One dock, and what it gave; what the statements look at first.
-/
import Derived.Test.YthipdinpbihhmaaNrow
namespace Go.Proofs.Ythipdinpbihhmaa
open Go.RowKit

/-- A dock that the call made, and the rows that it gave. -/
structure DkOn (W : World) (N p q M : Nat) (S : Dk) (L : List (Value × List ByteArray)) (w : World) : Prop where
  at' : DkAt w p q M S
  pN : N ≤ p
  qN : N ≤ q
  ups : ∀ x ∈ L, UpR M w x.1 x.2
  be : Below N W w

section
variable {W w w' : World} {N p q M c : Nat} {S T : Dk} {L : List (Value × List ByteArray)}
theorem DkOn.below (h : DkOn W N p q M S L w) (hb : Below w.heap.size w w') (hN : N ≤ w.heap.size) : DkOn W N p q M S L w' :=
  ⟨h.at'.below hb, h.pN, h.qN, fun x hx => (h.ups x hx).below hb, h.be.trans (hb.mono hN)⟩
theorem DkOn.nle (h : DkOn W N p q M S L w) : N ≤ w.heap.size := by
  obtain ⟨E, h1, _⟩ := h.at'
  have := h1.size
  have := h1.pM
  have := h.pN
  omega
theorem DkOn.drewN (h : DkOn W N p q M S L w) (k : Nat) : DkOn W N p q M S L (w.drewN k) := h.below ⟨rfl, rfl, rfl, Nat.le_refl _, fun _ _ => rfl⟩ h.nle
theorem DkOn.less {L2 : List (Value × List ByteArray)} (h : DkOn W N p q M S L w) (hL : ∀ x ∈ L2, x ∈ L) : DkOn W N p q M S L2 w := ⟨h.at', h.pN, h.qN, fun x hx => h.ups x (hL x hx), h.be⟩

theorem on_new (win : Nat) (h1 : 1 ≤ win) (h2 : win ≤ 16) (hB : Below N W w) (hN : N ≤ w.heap.size) {z : Int} (hz : ((win : Nat) : Int) = z) :
    Calls Try.prog 9 #[.int .i64 z] w fun e w' => ∃ p q M, e = .returned (.tuple #[.pointer (some ⟨p, 0, none⟩), .int .i64 0]) ∧ DkOn W N p q M (Dk.new win) [] w' ∧ M = w'.heap.size ∧ Below w.heap.size w w' := by
  subst hz
  refine (new_any win w h1 h2).mono ?_
  rintro e w' ⟨p, q, rfl, h3, h4, h5, h6⟩
  exact ⟨p, q, _, rfl, ⟨h3, by omega, by omega, (fun x hx => by cases hx), hB.trans (h6.mono hN)⟩, rfl, h6⟩

theorem on_take {num : Nat} {b : Bd} {A : Nat → Prop} (h : DkOn W N p q M S L w) (hS : S.ok c) (hc : c ≤ 1000) (hn : num < 18446744073709551616) (hB : BodyV A w b) (hs : b.s.size ≤ 140737488355328) :
    Calls Try.prog 10 #[.pointer (some ⟨p, 0, none⟩), .int .u64 (num : Nat), .slice b.a b.s.size b.c] w fun e w' => ∃ a cap, e = .returned (.tuple #[.slice a (S.gave num b.s).length cap, .bool (S.may num)]) ∧
      DkOn W N p q M (S.came num b.s) ((.slice a (S.gave num b.s).length cap, S.gave num b.s) :: L) w' ∧ Keep (PQ p q) w w' := by
  refine (take_any h.at' hS hc hn hB hs).mono ?_
  rintro e w' ⟨v, rfl, h1, h2, h3⟩
  have h1' := h1
  obtain ⟨a, cap, L1, rfl, e2, -, -⟩ := h1
  have e3 : L1.length = (S.gave num b.s).length := by rw [← e2, List.length_map]
  rw [e3] at h1' ⊢
  obtain ⟨E, hE, -⟩ := h.at'
  have hpM := hE.pM
  have hqM := hE.qM
  refine ⟨a, cap, rfl, ⟨h2, h.pN, h.qN, fun x hx => ?_, h.be.trans (h3.below h.nle (fun k hk => ?_))⟩, h3⟩
  · rcases List.mem_cons.1 hx with rfl | hx
    · exact h1'
    · exact (h.ups x hx).keep h3 (fun k _ hk f => by rcases f with f | f <;> omega)
  · have := h.pN
    have := h.qN
    rcases hk with hk | hk <;> omega

theorem on_next (h : DkOn W N p q M S L w) {z : Int} (hz : ((S.next : Nat) : Int) = z) : Calls Try.prog 15 #[.pointer (some ⟨p, 0, none⟩)] w fun e w' => e = .returned (.int .u64 z) ∧ w' = w := by
  subst hz
  exact next_any h.at'
theorem on_held (h : DkOn W N p q M S L w) (hS : S.ok c) : Calls Try.prog 11 #[.pointer (some ⟨p, 0, none⟩)] w fun e w' => ∃ a cap, e = .returned (.slice a S.nums.length cap) ∧ SlV w' a cap (S.nums.map uN) ∧ (∀ ad, a = some ad → w.heap.size ≤ ad.block) ∧ DkOn W N p q M S L w' ∧ Below w.heap.size w w' := by
  refine (held_any h.at' hS).mono ?_
  rintro e w' ⟨a, cap, rfl, h1, h3, h2⟩
  exact ⟨a, cap, rfl, h1, h3, h.below h2 h.nle, h2⟩

/-- A letter comes. -/
theorem on_lit {num ch k : Nat} {z x : Int} {b : Bool} {s : ByteArray} {ss : List ByteArray} (h : DkOn W N p q M S L w) (hS : S.ok c) (hc : c ≤ 1000) (hz : (num : Int) = z) (hn : num < 18446744073709551616) (hch : ch < 256) (hx : (ch : Int) = x) (hs : bsN s = [ch])
    (hT : S.came num s = T) (hg : S.gave num s = ss) (hk : ss.length = k) (hm : S.may num = b) :
    Calls Try.prog 10 #[.pointer (some ⟨p, 0, none⟩), .int .u64 z, .slice (some ⟨w.heap.size, 0, none⟩) 1 1] (w.alloc (.cells #[.int .u8 x] 5 (1, 2))) fun e w' => ∃ a cap, e = .returned (.tuple #[.slice a k cap, .bool b]) ∧
      DkOn W N p q M T ((.slice a k cap, ss) :: L) w' ∧ ∀ ad : Addr, M ≤ ad.block → ad.block < w.heap.size → w'.cell? ad = w.cell? ad := by
  subst hz hx hT hg hk hm
  have hsz : s.size = 1 := by rw [← bsN_len, hs]; rfl
  have hl := sl_lit bV 256 w [ch] #[.int .u8 (ch : Int)] 5 (1, 2) 1 rfl rfl (by simpa using hch) (by unfold maxLen; omega)
  have hB : BodyV (fun _ => True) (w.alloc (.cells #[.int .u8 (ch : Int)] 5 (1, 2))) ⟨some ⟨w.heap.size, 0, none⟩, 1, s⟩ := ⟨by rw [hs]; exact hl, fun _ _ _ => trivial⟩
  have := on_take (num := num) (h.below ((Below.refl _ _).alloc (Nat.le_refl _) (.cells #[.int .u8 (ch : Int)] 5 (1, 2))) h.nle) hS hc hn hB (by show s.size ≤ 140737488355328; omega)
  rw [show (⟨some ⟨w.heap.size, 0, none⟩, 1, s⟩ : Bd).s.size = 1 from hsz] at this
  refine this.mono ?_
  rintro e w' ⟨a, cap, e1, h1, h2⟩
  obtain ⟨E, hE, -⟩ := h.at'
  have hpM := hE.pM
  have hqM := hE.qM
  refine ⟨a, cap, e1, h1, fun ad ha hb => ?_⟩
  refine (h2.cell (p := ad) (by simp; omega) (fun f => by rcases f with f | f <;> omega)).trans ?_
  exact ((Below.refl _ w).alloc (Nat.le_refl _) (.cells #[.int .u8 (ch : Int)] 5 (1, 2))).cell hb
end

/-- True, and all below as it was. -/
def DkOk (W : World) (E : Ending) (w' : World) : Prop := E = .returned (.bool true) ∧ Below W.heap.size W w'

abbrev Dk.okP (S : Dk) (c : Nat) : Prop := (1 ≤ S.win ∧ S.win ≤ 16) ∧ (1 ≤ S.next ∧ S.next + S.held.length ≤ c + 1) ∧ S.held.Pairwise (fun x y => x.1 < y.1) ∧ ∀ x ∈ S.held, S.next + 1 ≤ x.1 ∧ x.1 < S.next + S.win
theorem Dk.ok_of {S : Dk} {c : Nat} (h : S.okP c) : S.ok c := ⟨h.1, h.2.1, h.2.2.1, h.2.2.2⟩

def sA : ByteArray := ⟨#[97]⟩
def sB : ByteArray := ⟨#[98]⟩

set_option maxRecDepth 20000 in
set_option maxHeartbeats 8000000 in
theorem dk_awake (W : World) : Calls Try.prog 8 #[] W (DkOk W) := by
  have hcv := fun (w : World) (C : Array Value) (n c : Nat) => Lib.run_convert_bytes_const (P := Try.prog) w 31 5 C n c Try.underlying31 Try.underlying5
  go_enter Try.func8, Try.ntmps8
  go_wp2_with fail
  refine (on_new (W := W) (N := W.heap.size) 4 (by decide) (by decide) (Below.refl _ _) (Nat.le_refl _) rfl).mono ?_
  rintro e w1 ⟨p, q, M, rfl, h1, -, -⟩
  have L1 := Lib.hid h1
  clear h1
  go_wp2_with fail
  refine (on_lit (c := 5) (num := 2) (ch := 98) (s := sB) (T := ⟨4, 1, [(2, sB)]⟩) (ss := []) (k := 0) (b := true) L1.out (Dk.ok_of (by decide)) (by decide) rfl (by decide) (by decide) rfl rfl rfl rfl rfl rfl).mono ?_
  rintro e w2 ⟨a2, c2, rfl, h2, -⟩
  have L2 := Lib.hid h2
  clear h2 L1
  go_wp2_with fail
  refine (on_lit (c := 5) (num := 1) (ch := 97) (s := sA) (T := ⟨4, 3, []⟩) (ss := [sA, sB]) (k := 2) (b := true) L2.out (Dk.ok_of (by decide)) (by decide) rfl (by decide) (by decide) rfl rfl rfl rfl rfl rfl).mono ?_
  rintro e w3 ⟨a3, c3, rfl, h3, -⟩
  have L3 := Lib.hid h3
  clear h3 L2
  have B4 : Below w3.heap.size w3 (w3.alloc (.cells #[.string ⟨#[97]⟩, .string ⟨#[98]⟩] 9)) := (Below.refl _ _).alloc (Nat.le_refl _) _
  have L4 := Lib.hid (L3.out.below B4 L3.out.nle)
  have I4 := Lib.hid (slv_lit w3 [.string ⟨#[97]⟩, .string ⟨#[98]⟩] #[.string ⟨#[97]⟩, .string ⟨#[98]⟩] 9 2 rfl rfl (by unfold maxLen; omega))
  clear B4
  go_wp2_with fail
  refine (rows_any (ss := [sA, sB]) (rs := [sA, sB]) (L4.out.ups (.slice a3 2 c3, [sA, sB]) (by simp)) I4.out rfl true (by decide)).mono ?_
  rintro e w5 ⟨rfl, q5, rfl⟩
  have L5 := Lib.hid (L4.out.drewN q5)
  clear L3 L4 I4
  generalize (w3.alloc (.cells #[.string ⟨#[97]⟩, .string ⟨#[98]⟩] 9)).drewN q5 = w6 at *
  go_wp2_with fail
  refine (on_next (z := 3) L5.out rfl).mono ?_
  rintro e w7 ⟨rfl, hw⟩
  subst hw
  go_wp2_with fail
  go_ret
  exact ⟨rfl, L5.out.be⟩

end Go.Proofs.Ythipdinpbihhmaa
