/- InstrumentNames: for every text the law returns true, and its argument reads behind the call as it read before; the card ties the tables that it reads to the program's text. -/
import Derived.Test.YtjigapilplolcaaDoorNamesOf
import Derived.Test.YtjigapilplolcaaDoorRefName2
namespace Go.Proofs.YtjigapilplolcaaDoor

theorem names_card : Rows.InstrumentNamesCardSaid := names_card_of rparse_any
#print axioms names_card

end Go.Proofs.YtjigapilplolcaaDoor
