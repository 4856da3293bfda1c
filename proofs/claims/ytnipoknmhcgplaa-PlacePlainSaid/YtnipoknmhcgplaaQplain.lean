/-
  Small ones: the walk of the statement PlacePlain.
-/
import Derived.Test.YtnipoknmhcgplaaQpt
import Derived.Test.YtnipoknmhcgplaaQpf
namespace Go.Proofs.Ytnipoknmhcgplaa
open Go.RowKit

theorem law_PlacePlain (n g p : Int) (W : World) (hn : IntOk n) (hg : IntOk g) (hp : IntOk p) :
    Calls Try.prog 3 #[.int .i64 n, .int .i64 g, .int .i64 p] W (OkPost W) := by
  rcases @way_of n g p with h | h | h | h | h | h | h | h | h | h | h
  · exact plain_false n g p W hn hg hp (.inl h)
  · exact plain_false n g p W hn hg hp (.inr (.inl h))
  · exact plain_false n g p W hn hg hp (.inr (.inr (.inl h)))
  · exact plain_false n g p W hn hg hp (.inr (.inr (.inr (.inl h))))
  · exact plain_false n g p W hn hg hp (.inr (.inr (.inr (.inr (.inl h)))))
  · exact plain_true n g p W hn hg hp (.inl h)
  · exact plain_true n g p W hn hg hp (.inr (.inl h))
  · exact plain_false n g p W hn hg hp (.inr (.inr (.inr (.inr (.inr (.inl h))))))
  · exact plain_false n g p W hn hg hp (.inr (.inr (.inr (.inr (.inr (.inr h))))))
  · exact plain_true n g p W hn hg hp (.inr (.inr (.inl h)))
  · exact plain_true n g p W hn hg hp (.inr (.inr (.inr h)))

end Go.Proofs.Ytnipoknmhcgplaa
