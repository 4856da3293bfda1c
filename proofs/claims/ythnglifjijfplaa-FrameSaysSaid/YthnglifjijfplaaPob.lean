/-
  One writer or one reader, all else as it was; slices written out in the text; a slice of bytes as a string.
-/
import Derived.Test.YthnglifjijfplaaPpn
import Derived.Lib.SlBytesConst
namespace Go.Proofs.Ythnglifjijfplaa
open Go.RowKit

theorem sl_lit (f : Nat → Value) (M : Nat) (w : World) (xs : List Nat) (cs : Array Value) (t : TypeId) (fr : Nat × Nat) (n : Nat) (hcs : cs = (xs.map f).toArray) (hn : xs.length = n) (hl : ∀ x ∈ xs, x < M) (hm : n ≤ maxLen) : SlAt f M (w.alloc (.cells cs t fr)) (some ⟨w.heap.size, 0, none⟩) n xs := by
  subst hcs hn
  refine ⟨hl, Nat.le_refl _, hm, (fun e => by cases e), fun i hi => ⟨w.heap.size, 0, rfl, by simp, ?_⟩⟩
  rw [Nat.zero_add]
  have h := World.news_of_block (cs := (xs.map f).toArray) (fr := fr) (heap_alloc_new w (.cells (xs.map f).toArray t fr)) i (f xs[i]) (by simp [List.getElem?_eq_getElem hi])
  rw [add_spot, Nat.zero_add] at h
  exact h

def strB (xs : List Nat) : ByteArray := strOfNums (xs.map fun (x : Nat) => (x : Int))

/-- A slice of bytes as a string. -/
theorem conv_any {w : World} {a : Option Addr} {cap len : Nat} {xs : List Nat} (hs : SlAt bV 256 w a cap xs) (hl : xs.length = len) :
    (convert 23 9 (.slice a len cap)).run Try.prog w = .ok (.string (strB xs)) w := by
  subst hl
  cases a with
  | none =>
    have := hs.nil rfl
    have := hs.fit
    obtain rfl : xs = [] := List.length_eq_zero_iff.1 (by omega)
    exact run_convert_bytes_nil w 23 5 Try.underlying23 Try.underlying5 _ _ 9 Try.underlying9
  | some ad =>
    have hlo : (loadCells ad xs.length).run Try.prog w = .ok ((xs.map fun (x : Nat) => (x : Int)).map (Value.int .u8)).toArray w := by
      have := run_loadCells_list (P := Try.prog) w ad (xs.map bV) (fun j v hj => hs.news ad rfl j v hj)
      rw [show (xs.map fun (x : Nat) => (x : Int)).map (Value.int .u8) = xs.map bV by rw [List.map_map]; rfl]
      simpa using this
    rw [run_convert_bytes_string w 23 9 5 _ xs.length cap Try.underlying23 Try.underlying5 Try.underlying9, run_bytesToString w _ xs.length cap _ hlo, foldl_push_bytes]
    simp [strB, strOfNums, ByteArray.empty, ByteArray.emptyWithCapacity]
    rfl

def Ok (W : World) (e : Ending) (w' : World) : Prop := e = .returned (.bool true) ∧ Below W.heap.size W w'

/-! One writer, all else below N as it was. -/
def WrOn (W : World) (N p : Nat) (bs : List Nat) (w : World) : Prop := (∃ F, WrAt w N p F bs) ∧ Below N W w

theorem WrOn.post {W w w' : World} {N p : Nat} {F : Nat → Prop} {bs cs : List Nat} {e : Ending} (hA : WrAt w N p F bs) (hB : Below N W w) (h : WrPost w N p F cs e w') : WrOn W N p cs w' := by
  obtain ⟨v, hV⟩ := hA
  obtain ⟨_, F', hA', hK, _⟩ := h
  have hN : N ≤ w.heap.size := by have := hV.low p hV.inP; omega
  exact ⟨⟨F', hA'⟩, hB.trans (hK.below hN (fun k f => (hV.low k f).1))⟩

theorem WrAt.size {w : World} {N p : Nat} {F : Nat → Prop} {bs : List Nat} (h : WrAt w N p F bs) : N ≤ w.heap.size ∧ p < w.heap.size ∧ ∀ k, F k → N ≤ k ∧ k < w.heap.size := by
  obtain ⟨v, hV⟩ := h
  have := hV.low p hV.inP
  exact ⟨by omega, this.2, hV.low⟩

theorem WrOn.below {W w w' : World} {N p : Nat} {bs : List Nat} (h : WrOn W N p bs w) (hb : Below w.heap.size w w') : WrOn W N p bs w' := by
  obtain ⟨⟨F, hA⟩, hB⟩ := h
  exact ⟨⟨F, hA.below hb⟩, hB.trans (hb.mono hA.size.1)⟩

theorem on_num {W w : World} {N p n : Nat} {bs : List Nat} (h : WrOn W N p bs w) (hn : n < 18446744073709551616) (hl : bs.length ≤ 1000000) :
    Calls Try.prog 18 #[.pointer (some ⟨p, 0, none⟩), .int .u64 (n : Nat)] w fun e w' => e = .returned (.tuple #[]) ∧ WrOn W N p (bs ++ lebL n) w' := by
  obtain ⟨⟨F, hA⟩, hB⟩ := h
  exact (wnum_any w N p F bs n hA hn hl).mono fun e w' h => ⟨h.1, WrOn.post hA hB h⟩

theorem on_bytes {W w w1 : World} {N p len cap : Nat} {bs cs : List Nat} {ao : Option Addr} (h : WrOn W N p bs w) (hb : Below w.heap.size w w1) (hs : SlAt bV 256 w1 ao cap cs) (hlen : cs.length = len) (hF : ∀ ad, ao = some ad → cs ≠ [] → ad.block < N ∨ w.heap.size ≤ ad.block) (hl : bs.length ≤ 900000) (hc : cs.length ≤ 100000) :
    Calls Try.prog 19 #[.pointer (some ⟨p, 0, none⟩), .slice ao len cap] w1 fun e w' => e = .returned (.tuple #[]) ∧ WrOn W N p (bs ++ lebL cs.length ++ cs) w' := by
  subst hlen
  have hB1 := (h.below hb).2
  obtain ⟨⟨F, hA⟩, hB⟩ := h
  have hA1 := hA.below hb
  exact (wbytes_any w1 N p F bs cs ao cap hA1 hs (fun ad e h0 f => by have := hF ad e h0; have := hA.size.2.2 _ f; omega) hl hc).mono fun e w' h => ⟨h.1, WrOn.post hA1 hB1 h⟩

theorem on_done {W w : World} {N p : Nat} {bs : List Nat} (h : WrOn W N p bs w) (hl : bs.length ≤ 2000000) :
    Calls Try.prog 20 #[.pointer (some ⟨p, 0, none⟩)] w fun e w' => ∃ a cap, e = .returned (.slice a bs.length cap) ∧ SlAt bV 256 w' a cap bs ∧ WrOn W N p bs w' ∧ Below w.heap.size w w' ∧ ∀ ad, a = some ad → w.heap.size ≤ ad.block := by
  have h0 := h
  obtain ⟨⟨F, hA⟩, hB⟩ := h
  refine (wdone_any w N p F bs hA hl).mono fun e w' h => ?_
  obtain ⟨a, cap, he, hs, hb, hf⟩ := h
  exact ⟨a, cap, he, hs, h0.below hb, hb, fun ad e => (hf ad e).1⟩

/-! One reader, all else below N as it was. -/
def RdOn (W : World) (N p : Nat) (S : Nat → Prop) (s : Option (List Nat)) (w : World) : Prop := RdAt w p S s ∧ Below N W w ∧ N ≤ p ∧ N ≤ w.heap.size

theorem RdOn.post {W w w' : World} {N p : Nat} {S : Nat → Prop} {s s' : Option (List Nat)} {v : Value} {e : Ending} (h : RdOn W N p S s w) (hp : RdPost w p S v s' e w') : e = .returned v ∧ RdOn W N p S s' w' := by
  obtain ⟨_, hB, hN, hS⟩ := h
  obtain ⟨he, hA, hK⟩ := hp
  exact ⟨he, hA, hB.trans (hK.below hS (fun k e => e ▸ hN)), hN, Nat.le_trans hS hK.size⟩

theorem RdOn.below {W w w' : World} {N p : Nat} {S : Nat → Prop} {s : Option (List Nat)} (h : RdOn W N p S s w) (hb : Below w.heap.size w w') : RdOn W N p S s w' := by
  obtain ⟨hA, hB, hN, hS⟩ := h
  exact ⟨hA.below hb, hB.trans (hb.mono hS), hN, Nat.le_trans hS hb.size⟩

theorem on_rnum {W w : World} {N p most n : Nat} {S : Nat → Prop} {s s' : Option (List Nat)} (h : RdOn W N p S s w) (hr : numR most s = (n, s')) :
    Calls Try.prog 13 #[.pointer (some ⟨p, 0, none⟩), .int .u64 (most : Nat)] w fun e w' => e = .returned (.int .u64 (n : Nat)) ∧ RdOn W N p S s' w' := by
  have := rnum_any w p S s most h.1
  rw [hr] at this
  exact this.mono fun e w' hp => h.post hp

theorem on_rbytes {W w : World} {N p : Nat} {S : Nat → Prop} {s s' : Option (List Nat)} {most : Int} {ys : List Nat} (h : RdOn W N p S s w) (hm : -9223372036854775808 ≤ most ∧ most ≤ 9223372036854775807) (hb : (s.getD []).length ≤ 1000000) (hr : bytR most s = (ys, s')) :
    Calls Try.prog 14 #[.pointer (some ⟨p, 0, none⟩), .int .i64 most] w fun e w' => ∃ a cap, e = .returned (.slice a ys.length cap) ∧ SlAt bV 256 w' a cap ys ∧ RdOn W N p S s' w' := by
  have := rbytes_any w p S s most h.1 hm hb
  rw [hr] at this
  refine this.mono fun e w' hp => ?_
  obtain ⟨a, cap, he, hs, hA, hK, _⟩ := hp
  exact ⟨a, cap, he, hs, (h.post (v := .tuple #[]) ⟨rfl, hA, hK⟩).2⟩

theorem on_rend {W w : World} {N p : Nat} {S : Nat → Prop} {s : Option (List Nat)} {b : Bool} (h : RdOn W N p S s w) (hr : endR s = b) :
    Calls Try.prog 15 #[.pointer (some ⟨p, 0, none⟩)] w fun e w' => e = .returned (.bool b) ∧ w = w' := by
  subst hr
  exact rend_any w p S s h.1

theorem on_rnew {W w : World} {N len cap : Nat} {bs : List Nat} {ao : Option Addr} (hB : Below N W w) (hN : N ≤ w.heap.size) (hs : SlAt bV 256 w ao cap bs) (hlen : bs.length = len) (hl : len ≤ 2000000) :
    Calls Try.prog 12 #[.slice ao len cap] w fun e w' => ∃ p S, e = .returned (.pointer (some ⟨p, 0, none⟩)) ∧ RdOn W N p S (some bs) w' ∧ Below w.heap.size w w' ∧ w.heap.size ≤ p ∧ ∀ k, S k → w.heap.size ≤ k ∧ k < p := by
  subst hlen
  refine (rnew_any w bs ao cap hs hl).mono fun e w' hp => ?_
  obtain ⟨p, S, he, hA, hb, hp1, hS⟩ := hp
  exact ⟨p, S, he, ⟨hA, hB.trans (hb.mono hN), by omega, Nat.le_trans hN hb.size⟩, hb, hp1, hS⟩

def lenV (n : Nat) : Value := .int .i64 (n : Nat)

theorem Try.infoI : (Try.prog.info? 3).map (fun i => (i.zero, i.size, i.bytes)) = some (some (.int .i64 0), 1, 8) := by kernel_rfl

end Go.Proofs.Ythnglifjijfplaa
