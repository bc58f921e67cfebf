/- Slices of dates and slices of slices together. -/
import Derived.Test.YtbhceokapbnhhaaDateHelp2
import Derived.Test.YtbhceokapbnhhaaRowsHelp
