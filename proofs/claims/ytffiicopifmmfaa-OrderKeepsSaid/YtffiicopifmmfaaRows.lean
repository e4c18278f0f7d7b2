/-
  No cell of these rows narrows 'for every input' (looked for: loops, veiled, ifaces, maps, wideKeys, modest, calm, conditions, laid).
  DERIVED. THE GIVEN ROWS OF THIS SEAT. 13 by the template 'for every input the law returns true; each argument reads behind the call as it read before'; 0 by the template 'total and deterministic' (their statements: YtffiicopifmmfaaTotals.lean).
  GIVEN WITH THE SEED: the statements are not yours to turn. If you find one false, say at which input.
  Laid BY PROGRAM, IN A SANDBOX (cutbox-rows.mjs): the forced cells as the released guide's own fill.sh prints them over the translation 37193b1e08f119fc… (all of the seat's roots in one cut). By AI agents, Wed Nov 11 2026. No macro, syntax, notation, axiom, sorry.
-/
import Derived.Test.YtffiicopifmmfaaChecked
import GoSem.Claim
import GoSem.ClaimJoined
import GoSem.ClaimMapViews
import Derived.JoinedTies
import Derived.KernelRfl
namespace Go.Proofs.Ytffiicopifmmfaa
/- THE CELL 'sum', in the pinned program and in every row, IS THE sha256 OF THE DUMP (.gsa) THAT YtffiicopifmmfaaProg.lean LOADS. Nothing in Lean hashes anything: it is a label: what it is worth is what the hold of that sum in a sandbox is worth. -/
noncomputable def Try.pinned : Pinned := { name := "ytffiicopifmmfaa", sum := "37193b1e08f119fce14de8d9156f78a8b4fa59a4460cc991ca074c00874dc4c4", checked := Try.checked }
namespace Rows
def none {H : Type} : Left H := { results := [], args := [] }

/-- 'dunnagelaw05.OrderExamples': WHATEVER THE INPUT: true; the input reads as it did. -/
def orderExamplesSpec : ChangeSpec := { name := "orderExamples", fn := fun _ => fun
  | [] => { results := [.lit (.bool true)], args := [] }
  | _ => none }
def orderExamplesRow : OpenClaim := { program := "ytffiicopifmmfaa", sum := "37193b1e08f119fce14de8d9156f78a8b4fa59a4460cc991ca074c00874dc4c4", func := "dunnage/dunnagelaw05.OrderExamples", spec := "orderExamples", unfollowed := true, recurses := true, apart := false }
def OrderExamplesSaid : Prop := orderExamplesRow.holds Try.pinned (OpenSpec.ofChange orderExamplesSpec)

/-- ITS FALSE NEIGHBOUR: 'it returns false'. Refute it at one input. -/
def orderExamplesWrong : ChangeSpec := { name := "orderExamples", fn := fun _ => fun
  | [] => { results := [.lit (.bool false)], args := [] }
  | _ => none }
def OrderExamplesWrongFalsely : Prop := orderExamplesRow.holds Try.pinned (OpenSpec.ofChange orderExamplesWrong)

/-- 'dunnagelaw05.OrderStates': WHATEVER THE INPUT: true; the input reads as it did. -/
def orderStatesSpec : ChangeSpec := { name := "orderStates", fn := fun _ => fun
  | [d1, d2, d3, d4, d5, d6] => { results := [.lit (.bool true)], args := [d1, d2, d3, d4, d5, d6] }
  | _ => none }
def orderStatesRow : OpenClaim := { program := "ytffiicopifmmfaa", sum := "37193b1e08f119fce14de8d9156f78a8b4fa59a4460cc991ca074c00874dc4c4", func := "dunnage/dunnagelaw05.OrderStates", spec := "orderStates", apart := false }
def OrderStatesSaid : Prop := orderStatesRow.holds Try.pinned (OpenSpec.ofChange orderStatesSpec)

/-- ITS FALSE NEIGHBOUR: 'it returns false'. Refute it at one input. -/
def orderStatesWrong : ChangeSpec := { name := "orderStates", fn := fun _ => fun
  | [d1, d2, d3, d4, d5, d6] => { results := [.lit (.bool false)], args := [d1, d2, d3, d4, d5, d6] }
  | _ => none }
def OrderStatesWrongFalsely : Prop := orderStatesRow.holds Try.pinned (OpenSpec.ofChange orderStatesWrong)

/-- 'dunnagelaw05.OrderCounts': WHATEVER THE INPUT: true; the input reads as it did. -/
def orderCountsSpec : ChangeSpec := { name := "orderCounts", fn := fun _ => fun
  | [d1, d2, d3, d4] => { results := [.lit (.bool true)], args := [d1, d2, d3, d4] }
  | _ => none }
def orderCountsRow : OpenClaim := { program := "ytffiicopifmmfaa", sum := "37193b1e08f119fce14de8d9156f78a8b4fa59a4460cc991ca074c00874dc4c4", func := "dunnage/dunnagelaw05.OrderCounts", spec := "orderCounts", apart := false }
def OrderCountsSaid : Prop := orderCountsRow.holds Try.pinned (OpenSpec.ofChange orderCountsSpec)

/-- ITS FALSE NEIGHBOUR: 'it returns false'. Refute it at one input. -/
def orderCountsWrong : ChangeSpec := { name := "orderCounts", fn := fun _ => fun
  | [d1, d2, d3, d4] => { results := [.lit (.bool false)], args := [d1, d2, d3, d4] }
  | _ => none }
def OrderCountsWrongFalsely : Prop := orderCountsRow.holds Try.pinned (OpenSpec.ofChange orderCountsWrong)

/-- 'dunnagelaw05.OrderBooks': WHATEVER THE INPUT: true; the input reads as it did. -/
def orderBooksSpec : ChangeSpec := { name := "orderBooks", fn := fun _ => fun
  | [d1, d2, d3] => { results := [.lit (.bool true)], args := [d1, d2, d3] }
  | _ => none }
def orderBooksRow : OpenClaim := { program := "ytffiicopifmmfaa", sum := "37193b1e08f119fce14de8d9156f78a8b4fa59a4460cc991ca074c00874dc4c4", func := "dunnage/dunnagelaw05.OrderBooks", spec := "orderBooks", unfollowed := true, recurses := true, apart := false }
def OrderBooksSaid : Prop := orderBooksRow.holds Try.pinned (OpenSpec.ofChange orderBooksSpec)

/-- ITS FALSE NEIGHBOUR: 'it returns false'. Refute it at one input. -/
def orderBooksWrong : ChangeSpec := { name := "orderBooks", fn := fun _ => fun
  | [d1, d2, d3] => { results := [.lit (.bool false)], args := [d1, d2, d3] }
  | _ => none }
def OrderBooksWrongFalsely : Prop := orderBooksRow.holds Try.pinned (OpenSpec.ofChange orderBooksWrong)

/-- 'dunnagelaw05.OrderPlays': WHATEVER THE INPUT: true; the input reads as it did. -/
def orderPlaysSpec : ChangeSpec := { name := "orderPlays", fn := fun _ => fun
  | [d1, d2] => { results := [.lit (.bool true)], args := [d1, d2] }
  | _ => none }
def orderPlaysRow : OpenClaim := { program := "ytffiicopifmmfaa", sum := "37193b1e08f119fce14de8d9156f78a8b4fa59a4460cc991ca074c00874dc4c4", func := "dunnage/dunnagelaw05.OrderPlays", spec := "orderPlays", unfollowed := true, recurses := true, apart := false }
def OrderPlaysSaid : Prop := orderPlaysRow.holds Try.pinned (OpenSpec.ofChange orderPlaysSpec)

/-- ITS FALSE NEIGHBOUR: 'it returns false'. Refute it at one input. -/
def orderPlaysWrong : ChangeSpec := { name := "orderPlays", fn := fun _ => fun
  | [d1, d2] => { results := [.lit (.bool false)], args := [d1, d2] }
  | _ => none }
def OrderPlaysWrongFalsely : Prop := orderPlaysRow.holds Try.pinned (OpenSpec.ofChange orderPlaysWrong)

/-- 'dunnagelaw05.OrderPath': WHATEVER THE INPUT: true; the input reads as it did. -/
def orderPathSpec : ChangeSpec := { name := "orderPath", fn := fun _ => fun
  | [d1, d2, d3, d4, d5, d6] => { results := [.lit (.bool true)], args := [d1, d2, d3, d4, d5, d6] }
  | _ => none }
def orderPathRow : OpenClaim := { program := "ytffiicopifmmfaa", sum := "37193b1e08f119fce14de8d9156f78a8b4fa59a4460cc991ca074c00874dc4c4", func := "dunnage/dunnagelaw05.OrderPath", spec := "orderPath", unfollowed := true, recurses := true, apart := false }
def OrderPathSaid : Prop := orderPathRow.holds Try.pinned (OpenSpec.ofChange orderPathSpec)

/-- ITS FALSE NEIGHBOUR: 'it returns false'. Refute it at one input. -/
def orderPathWrong : ChangeSpec := { name := "orderPath", fn := fun _ => fun
  | [d1, d2, d3, d4, d5, d6] => { results := [.lit (.bool false)], args := [d1, d2, d3, d4, d5, d6] }
  | _ => none }
def OrderPathWrongFalsely : Prop := orderPathRow.holds Try.pinned (OpenSpec.ofChange orderPathWrong)

/-- 'dunnagelaw05.OrderQuota': WHATEVER THE INPUT: true; the input reads as it did. -/
def orderQuotaSpec : ChangeSpec := { name := "orderQuota", fn := fun _ => fun
  | [d1, d2, d3, d4] => { results := [.lit (.bool true)], args := [d1, d2, d3, d4] }
  | _ => none }
def orderQuotaRow : OpenClaim := { program := "ytffiicopifmmfaa", sum := "37193b1e08f119fce14de8d9156f78a8b4fa59a4460cc991ca074c00874dc4c4", func := "dunnage/dunnagelaw05.OrderQuota", spec := "orderQuota", unfollowed := true, recurses := true, apart := false }
def OrderQuotaSaid : Prop := orderQuotaRow.holds Try.pinned (OpenSpec.ofChange orderQuotaSpec)

/-- ITS FALSE NEIGHBOUR: 'it returns false'. Refute it at one input. -/
def orderQuotaWrong : ChangeSpec := { name := "orderQuota", fn := fun _ => fun
  | [d1, d2, d3, d4] => { results := [.lit (.bool false)], args := [d1, d2, d3, d4] }
  | _ => none }
def OrderQuotaWrongFalsely : Prop := orderQuotaRow.holds Try.pinned (OpenSpec.ofChange orderQuotaWrong)

/-- 'dunnagelaw05.OrderKeeps': WHATEVER THE INPUT: true; the input reads as it did. -/
def orderKeepsSpec : ChangeSpec := { name := "orderKeeps", fn := fun _ => fun
  | [d1, d2] => { results := [.lit (.bool true)], args := [d1, d2] }
  | _ => none }
def orderKeepsRow : OpenClaim := { program := "ytffiicopifmmfaa", sum := "37193b1e08f119fce14de8d9156f78a8b4fa59a4460cc991ca074c00874dc4c4", func := "dunnage/dunnagelaw05.OrderKeeps", spec := "orderKeeps", unfollowed := true, recurses := true, apart := false }
def OrderKeepsSaid : Prop := orderKeepsRow.holds Try.pinned (OpenSpec.ofChange orderKeepsSpec)

/-- ITS FALSE NEIGHBOUR: 'it returns false'. Refute it at one input. -/
def orderKeepsWrong : ChangeSpec := { name := "orderKeeps", fn := fun _ => fun
  | [d1, d2] => { results := [.lit (.bool false)], args := [d1, d2] }
  | _ => none }
def OrderKeepsWrongFalsely : Prop := orderKeepsRow.holds Try.pinned (OpenSpec.ofChange orderKeepsWrong)

/-- 'dunnagelaw05.OrderFirst': WHATEVER THE INPUT: true; the input reads as it did. -/
def orderFirstSpec : ChangeSpec := { name := "orderFirst", fn := fun _ => fun
  | [d1, d2] => { results := [.lit (.bool true)], args := [d1, d2] }
  | _ => none }
def orderFirstRow : OpenClaim := { program := "ytffiicopifmmfaa", sum := "37193b1e08f119fce14de8d9156f78a8b4fa59a4460cc991ca074c00874dc4c4", func := "dunnage/dunnagelaw05.OrderFirst", spec := "orderFirst", unfollowed := true, recurses := true, apart := false }
def OrderFirstSaid : Prop := orderFirstRow.holds Try.pinned (OpenSpec.ofChange orderFirstSpec)

/-- ITS FALSE NEIGHBOUR: 'it returns false'. Refute it at one input. -/
def orderFirstWrong : ChangeSpec := { name := "orderFirst", fn := fun _ => fun
  | [d1, d2] => { results := [.lit (.bool false)], args := [d1, d2] }
  | _ => none }
def OrderFirstWrongFalsely : Prop := orderFirstRow.holds Try.pinned (OpenSpec.ofChange orderFirstWrong)

/-- 'dunnagelaw05.OrderApart': WHATEVER THE INPUT: true; the input reads as it did. -/
def orderApartSpec : ChangeSpec := { name := "orderApart", fn := fun _ => fun
  | [d1, d2, d3] => { results := [.lit (.bool true)], args := [d1, d2, d3] }
  | _ => none }
def orderApartRow : OpenClaim := { program := "ytffiicopifmmfaa", sum := "37193b1e08f119fce14de8d9156f78a8b4fa59a4460cc991ca074c00874dc4c4", func := "dunnage/dunnagelaw05.OrderApart", spec := "orderApart", unfollowed := true, recurses := true, apart := false }
def OrderApartSaid : Prop := orderApartRow.holds Try.pinned (OpenSpec.ofChange orderApartSpec)

/-- ITS FALSE NEIGHBOUR: 'it returns false'. Refute it at one input. -/
def orderApartWrong : ChangeSpec := { name := "orderApart", fn := fun _ => fun
  | [d1, d2, d3] => { results := [.lit (.bool false)], args := [d1, d2, d3] }
  | _ => none }
def OrderApartWrongFalsely : Prop := orderApartRow.holds Try.pinned (OpenSpec.ofChange orderApartWrong)

/-- 'dunnagelaw05.OrderRefused': WHATEVER THE INPUT: true; the input reads as it did. -/
def orderRefusedSpec : ChangeSpec := { name := "orderRefused", fn := fun _ => fun
  | [d1, d2] => { results := [.lit (.bool true)], args := [d1, d2] }
  | _ => none }
def orderRefusedRow : OpenClaim := { program := "ytffiicopifmmfaa", sum := "37193b1e08f119fce14de8d9156f78a8b4fa59a4460cc991ca074c00874dc4c4", func := "dunnage/dunnagelaw05.OrderRefused", spec := "orderRefused", unfollowed := true, recurses := true, apart := false }
def OrderRefusedSaid : Prop := orderRefusedRow.holds Try.pinned (OpenSpec.ofChange orderRefusedSpec)

/-- ITS FALSE NEIGHBOUR: 'it returns false'. Refute it at one input. -/
def orderRefusedWrong : ChangeSpec := { name := "orderRefused", fn := fun _ => fun
  | [d1, d2] => { results := [.lit (.bool false)], args := [d1, d2] }
  | _ => none }
def OrderRefusedWrongFalsely : Prop := orderRefusedRow.holds Try.pinned (OpenSpec.ofChange orderRefusedWrong)

/-- 'dunnagelaw05.OrderRoom': WHATEVER THE INPUT: true; the input reads as it did. -/
def orderRoomSpec : ChangeSpec := { name := "orderRoom", fn := fun _ => fun
  | [d1, d2, d3, d4, d5, d6] => { results := [.lit (.bool true)], args := [d1, d2, d3, d4, d5, d6] }
  | _ => none }
def orderRoomRow : OpenClaim := { program := "ytffiicopifmmfaa", sum := "37193b1e08f119fce14de8d9156f78a8b4fa59a4460cc991ca074c00874dc4c4", func := "dunnage/dunnagelaw05.OrderRoom", spec := "orderRoom", unfollowed := true, recurses := true, apart := false }
def OrderRoomSaid : Prop := orderRoomRow.holds Try.pinned (OpenSpec.ofChange orderRoomSpec)

/-- ITS FALSE NEIGHBOUR: 'it returns false'. Refute it at one input. -/
def orderRoomWrong : ChangeSpec := { name := "orderRoom", fn := fun _ => fun
  | [d1, d2, d3, d4, d5, d6] => { results := [.lit (.bool false)], args := [d1, d2, d3, d4, d5, d6] }
  | _ => none }
def OrderRoomWrongFalsely : Prop := orderRoomRow.holds Try.pinned (OpenSpec.ofChange orderRoomWrong)

/-- 'dunnagelaw05.OrderTotals': WHATEVER THE INPUT: true; the input reads as it did. -/
def orderTotalsSpec : ChangeSpec := { name := "orderTotals", fn := fun _ => fun
  | [d1, d2] => { results := [.lit (.bool true)], args := [d1, d2] }
  | _ => none }
def orderTotalsRow : OpenClaim := { program := "ytffiicopifmmfaa", sum := "37193b1e08f119fce14de8d9156f78a8b4fa59a4460cc991ca074c00874dc4c4", func := "dunnage/dunnagelaw05.OrderTotals", spec := "orderTotals", unfollowed := true, recurses := true, apart := false }
def OrderTotalsSaid : Prop := orderTotalsRow.holds Try.pinned (OpenSpec.ofChange orderTotalsSpec)

/-- ITS FALSE NEIGHBOUR: 'it returns false'. Refute it at one input. -/
def orderTotalsWrong : ChangeSpec := { name := "orderTotals", fn := fun _ => fun
  | [d1, d2] => { results := [.lit (.bool false)], args := [d1, d2] }
  | _ => none }
def OrderTotalsWrongFalsely : Prop := orderTotalsRow.holds Try.pinned (OpenSpec.ofChange orderTotalsWrong)

/- THE SECOND FORM. 'bulk': how many values and letters a reading holds, each counted each time it is reached (what is shared counts as often as it is met; a slice's spare places count too). A statement '..UptoSaid' is the law's where the arguments, and the package variables that the reading takes, are together of bulk at most 1048576: NARROWER than '..Said'. Prove '..Said' where nothing that the law and all that it calls make is longer than what came in: it says more and counts as full. Else prove '..UptoSaid'. A law counts once. -/
mutual
def uptoBulk {H : Type} : DataW H → Nat
  | .lit (.string bytes) => bytes.length + 1
  | .lit _ => 1
  | .nil => 1
  | .ptr d => uptoBulk d + 1
  | .slice elems spare => uptoBulkAll elems + uptoBulkAll spare + 1
  | .agg parts => uptoBulkAll parts + 1
  | .iface _ d => uptoBulk d + 1
  | .map entries => uptoBulkEntries entries + 1
  | .held _ => 1
def uptoBulkAll {H : Type} : List (DataW H) → Nat
  | [] => 0
  | d :: r => uptoBulk d + uptoBulkAll r
def uptoBulkEntries {H : Type} : List (Lit × DataW H) → Nat
  | [] => 0
  | x :: r => uptoBulkEntry x + uptoBulkEntries r
def uptoBulkEntry {H : Type} : Lit × DataW H → Nat
  | (.string bytes, d) => bytes.length + uptoBulk d + 1
  | (_, d) => uptoBulk d + 1
 end
def uptoSmall : (H : Type) → List (DataW H) → Bool := fun _ ds => decide (uptoBulkAll ds ≤ 1048576)
def OpenSpec.upto (s : _root_.Go.ChangeSpec) : _root_.Go.OpenSpec := { _root_.Go.OpenSpec.ofChange s with cond := some uptoSmall }

/-- 'dunnagelaw05.OrderExamples', WHERE WHAT IT READS IS OF BULK AT MOST 1048576: true; the input reads as it did. -/
def orderExamplesUptoRow : OpenClaim := { program := "ytffiicopifmmfaa", sum := "37193b1e08f119fce14de8d9156f78a8b4fa59a4460cc991ca074c00874dc4c4", func := "dunnage/dunnagelaw05.OrderExamples", spec := "orderExamples", unfollowed := true, recurses := true, apart := false, narrowed := true }
def OrderExamplesUptoSaid : Prop := orderExamplesUptoRow.holds Try.pinned (OpenSpec.upto orderExamplesSpec)

/-- 'dunnagelaw05.OrderStates', WHERE WHAT IT READS IS OF BULK AT MOST 1048576: true; the input reads as it did. -/
def orderStatesUptoRow : OpenClaim := { program := "ytffiicopifmmfaa", sum := "37193b1e08f119fce14de8d9156f78a8b4fa59a4460cc991ca074c00874dc4c4", func := "dunnage/dunnagelaw05.OrderStates", spec := "orderStates", apart := false, narrowed := true }
def OrderStatesUptoSaid : Prop := orderStatesUptoRow.holds Try.pinned (OpenSpec.upto orderStatesSpec)

/-- 'dunnagelaw05.OrderCounts', WHERE WHAT IT READS IS OF BULK AT MOST 1048576: true; the input reads as it did. -/
def orderCountsUptoRow : OpenClaim := { program := "ytffiicopifmmfaa", sum := "37193b1e08f119fce14de8d9156f78a8b4fa59a4460cc991ca074c00874dc4c4", func := "dunnage/dunnagelaw05.OrderCounts", spec := "orderCounts", apart := false, narrowed := true }
def OrderCountsUptoSaid : Prop := orderCountsUptoRow.holds Try.pinned (OpenSpec.upto orderCountsSpec)

/-- 'dunnagelaw05.OrderBooks', WHERE WHAT IT READS IS OF BULK AT MOST 1048576: true; the input reads as it did. -/
def orderBooksUptoRow : OpenClaim := { program := "ytffiicopifmmfaa", sum := "37193b1e08f119fce14de8d9156f78a8b4fa59a4460cc991ca074c00874dc4c4", func := "dunnage/dunnagelaw05.OrderBooks", spec := "orderBooks", unfollowed := true, recurses := true, apart := false, narrowed := true }
def OrderBooksUptoSaid : Prop := orderBooksUptoRow.holds Try.pinned (OpenSpec.upto orderBooksSpec)

/-- 'dunnagelaw05.OrderPlays', WHERE WHAT IT READS IS OF BULK AT MOST 1048576: true; the input reads as it did. -/
def orderPlaysUptoRow : OpenClaim := { program := "ytffiicopifmmfaa", sum := "37193b1e08f119fce14de8d9156f78a8b4fa59a4460cc991ca074c00874dc4c4", func := "dunnage/dunnagelaw05.OrderPlays", spec := "orderPlays", unfollowed := true, recurses := true, apart := false, narrowed := true }
def OrderPlaysUptoSaid : Prop := orderPlaysUptoRow.holds Try.pinned (OpenSpec.upto orderPlaysSpec)

/-- 'dunnagelaw05.OrderPath', WHERE WHAT IT READS IS OF BULK AT MOST 1048576: true; the input reads as it did. -/
def orderPathUptoRow : OpenClaim := { program := "ytffiicopifmmfaa", sum := "37193b1e08f119fce14de8d9156f78a8b4fa59a4460cc991ca074c00874dc4c4", func := "dunnage/dunnagelaw05.OrderPath", spec := "orderPath", unfollowed := true, recurses := true, apart := false, narrowed := true }
def OrderPathUptoSaid : Prop := orderPathUptoRow.holds Try.pinned (OpenSpec.upto orderPathSpec)

/-- 'dunnagelaw05.OrderQuota', WHERE WHAT IT READS IS OF BULK AT MOST 1048576: true; the input reads as it did. -/
def orderQuotaUptoRow : OpenClaim := { program := "ytffiicopifmmfaa", sum := "37193b1e08f119fce14de8d9156f78a8b4fa59a4460cc991ca074c00874dc4c4", func := "dunnage/dunnagelaw05.OrderQuota", spec := "orderQuota", unfollowed := true, recurses := true, apart := false, narrowed := true }
def OrderQuotaUptoSaid : Prop := orderQuotaUptoRow.holds Try.pinned (OpenSpec.upto orderQuotaSpec)

/-- 'dunnagelaw05.OrderKeeps', WHERE WHAT IT READS IS OF BULK AT MOST 1048576: true; the input reads as it did. -/
def orderKeepsUptoRow : OpenClaim := { program := "ytffiicopifmmfaa", sum := "37193b1e08f119fce14de8d9156f78a8b4fa59a4460cc991ca074c00874dc4c4", func := "dunnage/dunnagelaw05.OrderKeeps", spec := "orderKeeps", unfollowed := true, recurses := true, apart := false, narrowed := true }
def OrderKeepsUptoSaid : Prop := orderKeepsUptoRow.holds Try.pinned (OpenSpec.upto orderKeepsSpec)

/-- 'dunnagelaw05.OrderFirst', WHERE WHAT IT READS IS OF BULK AT MOST 1048576: true; the input reads as it did. -/
def orderFirstUptoRow : OpenClaim := { program := "ytffiicopifmmfaa", sum := "37193b1e08f119fce14de8d9156f78a8b4fa59a4460cc991ca074c00874dc4c4", func := "dunnage/dunnagelaw05.OrderFirst", spec := "orderFirst", unfollowed := true, recurses := true, apart := false, narrowed := true }
def OrderFirstUptoSaid : Prop := orderFirstUptoRow.holds Try.pinned (OpenSpec.upto orderFirstSpec)

/-- 'dunnagelaw05.OrderApart', WHERE WHAT IT READS IS OF BULK AT MOST 1048576: true; the input reads as it did. -/
def orderApartUptoRow : OpenClaim := { program := "ytffiicopifmmfaa", sum := "37193b1e08f119fce14de8d9156f78a8b4fa59a4460cc991ca074c00874dc4c4", func := "dunnage/dunnagelaw05.OrderApart", spec := "orderApart", unfollowed := true, recurses := true, apart := false, narrowed := true }
def OrderApartUptoSaid : Prop := orderApartUptoRow.holds Try.pinned (OpenSpec.upto orderApartSpec)

/-- 'dunnagelaw05.OrderRefused', WHERE WHAT IT READS IS OF BULK AT MOST 1048576: true; the input reads as it did. -/
def orderRefusedUptoRow : OpenClaim := { program := "ytffiicopifmmfaa", sum := "37193b1e08f119fce14de8d9156f78a8b4fa59a4460cc991ca074c00874dc4c4", func := "dunnage/dunnagelaw05.OrderRefused", spec := "orderRefused", unfollowed := true, recurses := true, apart := false, narrowed := true }
def OrderRefusedUptoSaid : Prop := orderRefusedUptoRow.holds Try.pinned (OpenSpec.upto orderRefusedSpec)

/-- 'dunnagelaw05.OrderRoom', WHERE WHAT IT READS IS OF BULK AT MOST 1048576: true; the input reads as it did. -/
def orderRoomUptoRow : OpenClaim := { program := "ytffiicopifmmfaa", sum := "37193b1e08f119fce14de8d9156f78a8b4fa59a4460cc991ca074c00874dc4c4", func := "dunnage/dunnagelaw05.OrderRoom", spec := "orderRoom", unfollowed := true, recurses := true, apart := false, narrowed := true }
def OrderRoomUptoSaid : Prop := orderRoomUptoRow.holds Try.pinned (OpenSpec.upto orderRoomSpec)

/-- 'dunnagelaw05.OrderTotals', WHERE WHAT IT READS IS OF BULK AT MOST 1048576: true; the input reads as it did. -/
def orderTotalsUptoRow : OpenClaim := { program := "ytffiicopifmmfaa", sum := "37193b1e08f119fce14de8d9156f78a8b4fa59a4460cc991ca074c00874dc4c4", func := "dunnage/dunnagelaw05.OrderTotals", spec := "orderTotals", unfollowed := true, recurses := true, apart := false, narrowed := true }
def OrderTotalsUptoSaid : Prop := orderTotalsUptoRow.holds Try.pinned (OpenSpec.upto orderTotalsSpec)

end Rows
end Go.Proofs.Ytffiicopifmmfaa
