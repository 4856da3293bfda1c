/-
  What the statements of the ship look at first.
-/
import Derived.Test.YtmahbmmeeifaiaaGany
import Derived.Test.YtmahbmmeeifaiaaGit
namespace Go.Proofs.Ytmahbmmeeifaiaa
open Go.RowKit

/-- True, and all below as it was. -/
def ShOk (W : World) (E : Ending) (w' : World) : Prop := E = .returned (.bool true) ∧ Below W.heap.size W w'

abbrev Sh.okP (S : Sh) (n : Nat) : Prop := (1 ≤ S.win ∧ S.win ≤ 16) ∧ (2 ≤ S.que ∧ S.que ≤ 32) ∧ S.g ≤ S.all.length ∧ S.all.length ≤ n ∧ S.waits.length ≤ S.que ∧ (1 ≤ S.pa.f ∧ S.pa.f ≤ S.pa.s) ∧ (S.pa.s ≤ S.pa.m ∧ S.pa.m ≤ 1000) ∧ S.pa.l ≤ S.pa.s ∧ S.pa.r ≤ n ∧ (0 < S.pa.l ↔ S.g < S.all.length) ∧ ∀ s ∈ S.all, s.size ≤ 1000
theorem Sh.ok_of {S : Sh} {n : Nat} (h : S.okP n) : S.ok n := by
  obtain ⟨h1, h2, h3, h4, h5, h6, h7, h8, h9, h10, h11⟩ := h
  exact ⟨h1, h2, h3, h4, h5, ⟨h6, h7, h8, h9⟩, h10, h11⟩

section
variable {W w : World} {N p n : Nat} {S T : Sh} {L : List Its}
/-- One letter is pushed. -/
theorem so_lit0 {c : Nat} {r : Bool} {s : ByteArray} (h : ShOn W N p S L w) (ho : S.ok n) (hn : n ≤ 500) (hc : c < 256) (hs : bsN s = [c]) :
    Calls Try.prog 10 #[.pointer (some ⟨p, 0, none⟩), .slice (some ⟨w.heap.size, 0, none⟩) 1 1, .bool r] (w.alloc (.cells #[.int .u8 (c : Int)] 5 (1, 2))) fun E w' => ∃ a cap, E = .returned (.tuple #[.slice a (S.pushI r s).length cap, .bool (S.room r)]) ∧ ShOn W N p (S.pushed r s) (⟨.slice a (S.pushI r s).length cap, S.last, S.pushI r s⟩ :: L) w' := by
  have hsz : s.size = 1 := by rw [← bsN_len, hs]; rfl
  have hl := sl_lit bV 256 w [c] #[.int .u8 (c : Int)] 5 (1, 2) 1 rfl rfl (by simpa using hc) (by unfold maxLen; omega)
  have hB : BodyV (fun _ => True) (w.alloc (.cells #[.int .u8 (c : Int)] 5 (1, 2))) ⟨some ⟨w.heap.size, 0, none⟩, 1, s⟩ := ⟨by rw [hs]; exact hl, fun _ _ _ => trivial⟩
  have := so_push (r := r) (h.below ((Below.refl _ _).alloc (Nat.le_refl _) (.cells #[.int .u8 (c : Int)] 5 (1, 2)))) ho hn hB (by show s.size ≤ 1000; omega)
  rw [show (⟨some ⟨w.heap.size, 0, none⟩, 1, s⟩ : Bd).s.size = 1 from hsz] at this
  exact this
theorem so_lit {c g k : Nat} {z : Int} {r b : Bool} {s : ByteArray} {ss : List ByteArray} (h : ShOn W N p S L w) (ho : S.ok n) (hn : n ≤ 500) (hc : c < 256) (hb' : bsN s = [c]) (hz : (c : Int) = z) (hT : S.pushed r s = T) (hg : S.last = g) (hs : S.pushI r s = ss) (hk : ss.length = k) (hb : S.room r = b) :
    Calls Try.prog 10 #[.pointer (some ⟨p, 0, none⟩), .slice (some ⟨w.heap.size, 0, none⟩) 1 1, .bool r] (w.alloc (.cells #[.int .u8 z] 5 (1, 2))) fun E w' => ∃ a cap, E = .returned (.tuple #[.slice a k cap, .bool b]) ∧ ShOn W N p T (⟨.slice a k cap, g, ss⟩ :: L) w' := by
  subst hz hT hg hs hk hb
  exact so_lit0 h ho hn hc hb'
theorem so_ackz {c g k : Nat} {z : Int} {ss : List ByteArray} (h : ShOn W N p S L w) (ho : S.ok n) (hn : n ≤ 500) (hz : (c : Int) = z) (hT : S.acked c = T) (hg : S.last = g) (hs : S.ackI c = ss) (hk : ss.length = k) :
    Calls Try.prog 11 #[.pointer (some ⟨p, 0, none⟩), .int .u64 z] w fun E w' => ∃ a cap, E = .returned (.slice a k cap) ∧ ShOn W N p T (⟨.slice a k cap, g, ss⟩ :: L) w' := by
  subst hz hT hg hs hk
  exact so_ack h ho hn
theorem so_tickz {g k : Nat} {ss : List ByteArray} (h : ShOn W N p S L w) (ho : S.ok n) (hn : n ≤ 500) (hT : S.tick = T) (hg : S.g = g) (hs : S.tickI = ss) (hk : ss.length = k) :
    Calls Try.prog 12 #[.pointer (some ⟨p, 0, none⟩)] w fun E w' => ∃ a cap, E = .returned (.slice a k cap) ∧ ShOn W N p T (⟨.slice a k cap, g, ss⟩ :: L) w' := by
  subst hT hg hs hk
  exact so_tick h ho hn
theorem so_lastz {z : Int} (h : ShOn W N p S L w) (hz : ((S.last : Nat) : Int) = z) : Calls Try.prog 23 #[.pointer (some ⟨p, 0, none⟩)] w fun E w' => E = .returned (.int .u64 z) ∧ w' = w := by
  subst hz
  exact so_last h
theorem so_leftz {z : Int} {b : Bool} (h : ShOn W N p S L w) (hz : ((S.pa.l : Nat) : Int) = z) (hb : decide (0 < S.pa.l) = b) : Calls Try.prog 13 #[.pointer (some ⟨p, 0, none⟩)] w fun E w' => E = .returned (.tuple #[.int .i64 z, .bool b]) ∧ ∃ n, w' = w.drewN n := by
  subst hz hb
  exact so_left h
theorem so_newz {a q f m : Nat} {za zq zf zm : Int} (ha : (a : Int) = za) (hq' : (q : Int) = zq) (hf' : (f : Int) = zf) (hm' : (m : Int) = zm) (hw : 1 ≤ a ∧ a ≤ 16) (hq : 2 ≤ q ∧ q ≤ 32) (hf : 1 ≤ f ∧ f ≤ m ∧ m ≤ 1000) (hB : Below N W w) (hN : N ≤ w.heap.size) :
    Calls Try.prog 9 #[.int .i64 za, .int .i64 zq, .int .i64 zf, .int .i64 zm] w fun E w' => ∃ p, E = .returned (.tuple #[.pointer (some ⟨p, 0, none⟩), .int .i64 0]) ∧ ShOn W N p (Sh.new a q f m) [] w' := by
  subst ha hq' hf' hm'
  exact so_new hw hq hf hB hN
end

/-- Items written out in the text. -/
theorem rt_lit (w : World) (g n : Nat) (ss : List ByteArray) (cs : Array Value) (t : TypeId) (hcs : cs = (itS g ss).toArray) (hn : ss.length = n) (hm : n ≤ maxLen) : RtR (fun _ => True) (w.alloc (.cells cs t)) (.slice (some ⟨w.heap.size, 0, none⟩) n n) g ss := by
  subst hcs hn
  refine ⟨_, _, rfl, itS_len g ss, Nat.le_refl _, hm, (fun e => by cases e), fun j x hj => ⟨w.heap.size, 0, rfl, by simp, trivial, ?_⟩⟩
  have h := World.news_of_block (cs := (itS g ss).toArray) (fr := (0, 0)) (heap_alloc_new w (.cells (itS g ss).toArray t)) j x (by simpa using hj)
  rw [Addr.add_lit] at h
  exact h

theorem it_is {W : World} {A B : Nat → Prop} {a1 a2 : Option Addr} {n c1 c2 g : Nat} {ss : List ByteArray} (h1 : ItR A W (.slice a1 n c1) g ss) (h2 : RtR B W (.slice a2 n c2) g ss) :
    Calls Try.prog 14 #[.slice a1 n c1, .slice a2 n c2] W fun E w' => E = .returned (.bool true) ∧ ∃ q, w' = W.drewN q := items_is W A B a1 a2 n c1 c2 g ss h1 h2

def sA : ByteArray := ⟨#[97]⟩
def sB : ByteArray := ⟨#[98]⟩

set_option maxRecDepth 20000 in
set_option maxHeartbeats 8000000 in
theorem sh_awake (W : World) : Calls Try.prog 8 #[] W (ShOk W) := by
  have hcv := fun (w : World) (C : Array Value) (n c : Nat) => Lib.run_convert_bytes_const (P := Try.prog) w 30 5 C n c Try.underlying30 Try.underlying5
  go_enter Try.func8, Try.ntmps8
  go_wp2_with fail
  refine (so_newz (a := 1) (q := 3) (f := 2) (m := 8) rfl rfl rfl rfl (by decide) (by decide) (by decide) (Below.refl W.heap.size W) (Nat.le_refl _)).mono ?_
  rintro e w1 ⟨p, rfl, h1⟩
  have L1 := Lib.hid h1
  clear h1
  go_wp2_with fail
  refine (so_lit (n := 10) (c := 97) (s := sA) (g := 0) (k := 1) (b := true) (T := ⟨1, 3, 0, [sA], ⟨2, 8, 2, 2, 0⟩⟩) (ss := [sA]) L1.out (Sh.ok_of (by decide)) (by decide) (by decide) rfl rfl rfl rfl rfl rfl rfl).mono ?_
  rintro e w2 ⟨a2, c2, rfl, h2⟩
  have L2 := Lib.hid h2
  clear h2 L1
  go_wp2_with fail
  refine (so_lit (n := 10) (c := 98) (s := sB) (g := 1) (k := 0) (b := true) (T := ⟨1, 3, 0, [sA, sB], ⟨2, 8, 2, 2, 0⟩⟩) (ss := []) L2.out (Sh.ok_of (by decide)) (by decide) (by decide) rfl rfl rfl rfl rfl rfl rfl).mono ?_
  rintro e w3 ⟨a3, c3, rfl, h3⟩
  have L3 := Lib.hid h3
  clear h3 L2
  go_wp2_with fail
  refine (so_ackz (n := 10) (c := 1) (g := 1) (k := 1) (T := ⟨1, 3, 1, [sA, sB], ⟨2, 8, 2, 2, 0⟩⟩) (ss := [sB]) L3.out (Sh.ok_of (by decide)) (by decide) rfl rfl rfl rfl rfl).mono ?_
  rintro e w4 ⟨a4, c4, rfl, h4⟩
  have L4 := Lib.hid h4
  clear h4 L3
  have B5 : Below w4.heap.size w4 (w4.alloc (.cells #[.int .u64 1, .string ⟨#[97]⟩] 38)) := (Below.refl _ _).alloc (Nat.le_refl _) _
  have L5 := Lib.hid (L4.out.below B5)
  have I5 := Lib.hid (rt_lit w4 0 1 [sA] #[.int .u64 1, .string ⟨#[97]⟩] 38 rfl rfl (by unfold maxLen; omega))
  go_wp2_with fail
  refine (it_is (g := 0) (ss := [sA]) (L5.out.it (x := ⟨.slice a2 1 c2, 0, [sA]⟩) (by simp)) I5.out).mono ?_
  rintro e w6 ⟨rfl, q6, rfl⟩
  have L6 := Lib.hid (L5.out.drewN q6)
  clear L4 L5 I5 B5
  generalize (w4.alloc (.cells #[.int .u64 1, .string ⟨#[97]⟩] 38)).drewN q6 = w7 at *
  have B7 : Below w7.heap.size w7 (w7.alloc (.cells #[.int .u64 2, .string ⟨#[98]⟩] 38)) := (Below.refl _ _).alloc (Nat.le_refl _) _
  have L7 := Lib.hid (L6.out.below B7)
  have I7 := Lib.hid (rt_lit w7 1 1 [sB] #[.int .u64 2, .string ⟨#[98]⟩] 38 rfl rfl (by unfold maxLen; omega))
  clear B7
  go_wp2_with fail
  refine (it_is (g := 1) (ss := [sB]) (L7.out.it (x := ⟨.slice a4 1 c4, 1, [sB]⟩) (by simp)) I7.out).mono ?_
  rintro e w8 ⟨rfl, q8, rfl⟩
  have L8 := Lib.hid (L7.out.drewN q8)
  clear L6 L7 I7
  go_wp2_with fail
  refine (so_lastz (z := 2) L8.out rfl).mono ?_
  rintro e w9 ⟨rfl, rfl⟩
  go_wp2_with fail
  go_ret
  exact ⟨rfl, L8.out.be⟩

end Go.Proofs.Ytmahbmmeeifaiaa
