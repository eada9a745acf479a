/-
  What the program's Get, Put and Name answer, where its tables lie.
-/
import Derived.Test.YtbgcgomefdblpaaDoorDqPutW
import Derived.Test.YtbgcgomefdblpaaDoorDqLaid
import Derived.Test.YtbgcgomefdblpaaDoorDePuts
import Derived.Test.YtbgcgomefdblpaaDoorDeRow
namespace Go.Proofs.YtbgcgomefdblpaaDoor
open Go.RowKit
namespace De
set_option maxHeartbeats 1600000

theorem EnvAt.on {B W : World} (h : EnvAt B) (hb : Below B.heap.size B W) : EnvAt W := h.below hb
theorem api {B : World} (h : EnvAt B) : Api B :=
  ⟨fun hw W hb => pget_any hw W (h.on hb), fun hx W hb => pput_any hx W (h.on hb), fun ho W hb => pname_any ho W (h.on hb)⟩
end De
end Go.Proofs.YtbgcgomefdblpaaDoor
