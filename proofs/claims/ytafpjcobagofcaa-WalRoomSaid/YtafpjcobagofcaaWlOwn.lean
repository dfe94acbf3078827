/- The program's log is one as the laws ask for it. Conditions: none. -/
import Derived.Test.YtafpjcobagofcaaWlMake
import Derived.Test.YtafpjcobagofcaaWlApp
import Derived.Test.YtafpjcobagofcaaWlRdL
import Derived.Test.YtafpjcobagofcaaWlDev
namespace Go.Proofs.Ytafpjcobagofcaa
open Go.RowKit

theorem own_wal : WlApi WlPD WlPL WlPM Wl.Hd where
  dkeep := wl_dkeep
  dlt := wl_dlt
  dok := fun h => by
    obtain ⟨m1, m2, h1, -⟩ := h
    exact h1.own.ok
  pkeep := wl_pkeep
  plt := wl_plt
  dev := wl_dev
  mem := wl_mem
  mkeep := wl_mkeep
  away := wl_away
  good := wl_good
  hold := wl_hold
  hold_crash := fun ps h => wl_hold_crash ps h
  new := wl_new
  make := fun a c h hC ha hc => wl_make a c h hC ha hc
  append := fun x o n u c t h hr hf _ hs => wl_append x o n u c t h hr hf hs
  read := fun p h hC _ hs => wl_read p h hC hs
  end_ := wl_end_
  left := fun h hs _ => wl_left h hs
end Go.Proofs.Ytafpjcobagofcaa
