/- dispatchref19.New. -/
import Derived.Test.YtffioglbgnbieaaSt
import Derived.Test.YtffioglbgnbieaaBlk0
import Derived.Test.YtffioglbgnbieaaSched
import Derived.Laws.Cover1
namespace Go.Proofs.Ytffioglbgnbieaa
open Go.RowKit

def rootB : ByteArray := ⟨#[114, 111, 111, 116]⟩
/-- A new state. -/
def newSV (g : Nat) : SV := ⟨.slice (some ⟨g + 1, 0, none⟩) 1 1, .slice (some ⟨g + 1 + 1 + 1, 0, none⟩) 1 1, .slice none 0 0, .slice none 0 0, .slice none 0 0, .slice none 0 0, .slice none 0 0, 0, 0, 0⟩
structure NewAt (g : Nat) (w : World) : Prop where
  labs : w.heap[g + 1]? = some (.cells #[.string ⟨#[]⟩] 9 (0, 0))
  caps : w.heap[g + 1 + 1]? = some (.cells #[.int .i64 10000, .int .i64 10000] 55 (0, 0))
  queue : w.heap[g + 1 + 1 + 1]? = some (.cells #[.string ⟨#[114, 111, 111, 116]⟩, .slice (some ⟨g + 1 + 1, 0, none⟩) 1 1, .int .i64 10000] 58 (0, 0))
theorem NewAt.ext {g : Nat} {w w' : World} (h : NewAt g w) (x : Ext w w') : NewAt g w' := ⟨ext_blk x h.labs, ext_blk x h.caps, ext_blk x h.queue⟩

set_option maxRecDepth 100000 in
set_option maxHeartbeats 1600000 in
theorem New_any (w : World) : Calls Try.prog 8 #[] w fun e w' => e = .returned (newSV w.heap.size).val ∧ NewAt w.heap.size w' ∧ w'.heap.size = w.heap.size + 4 ∧ Ext w w' := by
  go_enter Try.func8, Try.ntmps8
  go_wp2
  refine bodyPost_ret (by simp [results, Try.results8, go_sem]; try rfl) rfl ?_
  refine ⟨rfl, ⟨?_, ?_, ?_⟩, by simp, (((ext_alloc _ _).trans (ext_alloc _ _)).trans (ext_alloc _ _)).trans (ext_alloc _ _)⟩
  · exact ext_blk ((ext_alloc _ _).trans (ext_alloc _ _)) (alloc_at (by simp))
  · exact ext_blk (ext_alloc _ _) (alloc_at (by simp))
  · exact alloc_at (by simp)
end Go.Proofs.Ytffioglbgnbieaa
